/-
  The program's own log: join.
-/
import Derived.Test.YtlngcfaadfkbnaaDoorHg9
namespace Go.Proofs.YtlngcfaadfkbnaaDoor.pk
open Go Go.RowKit
set_option maxRecDepth 100000

/-- What a merge is, seen from a place on. -/
theorem merged_from {l : Lg} {i : Int} {more : List En} (h0 : (i - l.base).toNat ≤ l.l.length) : ∀ (k j : Nat), i + j - l.base = (k : Int) → (∀ x, (i - l.base).toNat ≤ x → x < k → ∃ (h : x < l.l.length), ∃ y, ∃ (h' : y < more.length), i + y - l.base = (x : Int) ∧ l.l[x].term = more[y].term) →
    k ≤ l.l.length → j ≤ more.length → (mergedE l i more).l = l.l.take k ++ overE (l.l.drop k) (more.drop j) := by
  intro k
  induction k with
  | zero =>
    intro j hj _ _ hjm
    show l.l.take (i - l.base).toNat ++ overE (l.l.drop (i - l.base).toNat) (more.drop (l.base - i).toNat) = _
    rw [show (i - l.base).toNat = 0 from by omega, show (l.base - i).toNat = j from by omega]
  | succ k ih =>
    intro j hj hsame hk hjm
    by_cases hp : (i - l.base).toNat = k + 1
    · show l.l.take (i - l.base).toNat ++ overE (l.l.drop (i - l.base).toNat) (more.drop (l.base - i).toNat) = _
      rw [hp, show (l.base - i).toNat = j from by omega]
    · by_cases hj0 : j = 0
      · omega
      · obtain ⟨j', rfl⟩ : ∃ j', j = j' + 1 := ⟨j - 1, by omega⟩
        rw [ih j' (by omega) (fun x h1 h2 => hsame x h1 (by omega)) (by omega) (by omega)]
        obtain ⟨hkl, y, hy, hyx, ht⟩ := hsame k (by omega) (by omega)
        obtain rfl : y = j' := by omega
        rw [List.drop_eq_getElem_cons hkl, List.drop_eq_getElem_cons hy, overE_cons, if_pos ht, List.take_succ_eq_append_getElem hkl, List.append_assoc]
        rfl
theorem over_differ {l more : List En} {k j : Nat} (hj : j < more.length) (h : l.length ≤ k ∨ ∃ h : k < l.length, l[k].term ≠ more[j].term) : overE (l.drop k) (more.drop j) = more.drop j := by
  rw [List.drop_eq_getElem_cons hj]
  rcases h with h | ⟨h, ht⟩
  · rw [List.drop_eq_nil_of_le h]; rfl
  · rw [List.drop_eq_getElem_cons h, overE_cons, if_neg ht]

/-- The state of the loop: each of the first ones of more lies at most at the base, or is there with its term. -/
def SoFar (l : Lg) (i : Int) (more : List En) (j : Nat) : Prop := ∀ x, (i - l.base).toNat ≤ x → (x : Int) < i + j - l.base → ∃ (h : x < l.l.length), ∃ y, ∃ (h' : y < more.length), i + y - l.base = (x : Int) ∧ l.l[x].term = more[y].term
theorem SoFar.le {l : Lg} {i : Int} {more : List En} {j : Nat} (h : SoFar l i more j) (hi : i ≤ l.base + (l.l.length : Int)) : i + j - l.base ≤ (l.l.length : Int) := by
  by_cases h0 : i + j - l.base ≤ 0
  · omega
  · by_cases h1 : j = 0
    · omega
    · by_cases h2 : (i - l.base).toNat ≤ (i + j - l.base).toNat - 1
      · obtain ⟨h3, -⟩ := h ((i + j - l.base).toNat - 1) h2 (by omega)
        omega
      · omega
theorem SoFar.next {l : Lg} {i : Int} {more : List En} {j : Nat} (h : SoFar l i more j) (hj : j < more.length) (ht : i + j - l.base < 0 ∨ ∃ k, ∃ (h : k < l.l.length), i + j - l.base = (k : Int) ∧ l.l[k].term = more[j].term) : SoFar l i more (j + 1) := by
  intro x h1 h2
  by_cases h3 : (x : Int) < i + j - l.base
  · exact h x h1 h3
  · rcases ht with ht | ⟨k, hk, hk2, hk3⟩
    · omega
    · obtain rfl : x = k := by omega
      exact ⟨hk, j, hj, hk2, hk3⟩
theorem SoFar.merged {l : Lg} {i : Int} {more : List En} {j k : Nat} (h : SoFar l i more j) (hi : i ≤ l.base + (l.l.length : Int)) (hk : i + j - l.base = (k : Int)) (hj : j ≤ more.length) : (mergedE l i more).l = l.l.take k ++ overE (l.l.drop k) (more.drop j) := by
  have := h.le hi
  exact merged_from (by omega) k j hk (fun x h1 h2 => h x h1 (by omega)) (by omega) hj
/-- At the end it is the log itself. -/
theorem SoFar.all {l : Lg} {i : Int} {more : List En} (h : SoFar l i more more.length) (hi : i ≤ l.base + (l.l.length : Int)) : (mergedE l i more).l = l.l := by
  by_cases h0 : 0 ≤ i + (more.length : Int) - l.base
  · obtain ⟨k, hk⟩ : ∃ k : Nat, i + (more.length : Int) - l.base = (k : Int) := ⟨(i + (more.length : Int) - l.base).toNat, by omega⟩
    rw [h.merged hi hk (Nat.le_refl _), List.drop_length, overE_nil, List.take_append_drop]
  · show l.l.take (i - l.base).toNat ++ overE (l.l.drop (i - l.base).toNat) (more.drop (l.base - i).toNat) = _
    rw [show more.drop (l.base - i).toNat = [] from List.drop_eq_nil_of_le (by omega), overE_nil, List.take_append_drop]

set_option maxHeartbeats 16000000 in
theorem join_g (l : Lg) (A : Option Addr) (n c : Nat) (i t : Int) (A' : Option Addr) (n' c' : Nat) (more : List En) (w : World) (h : Inp l A n c w) (hm : mayE l = true) (h' : Ents w (.slice A' n' c') more) (hs' : SmallE 1000 100000 more) (hl0 : n ≤ 1000) (hb : behindE i t more = true) (h0 : 0 ≤ i) (hi : i ≤ l.base + (n : Int)) (q : Nat) (hq0 : q = (mergedE l i more).l.length) :
    Calls Tryd.prog 48 #[.agg #[.int .i64 l.base, .int .i64 l.term, .slice A n c], .slice A' n' c'] w fun y w' => ∃ A1 c1, y = .returned (.agg #[.int .i64 l.base, .int .i64 l.term, .slice A1 q c1]) ∧ FEnts w w' (.slice A1 q c1) (mergedE l i more).l ∧ Below w.heap.size w w' := by
  obtain ⟨W1, g, g2, hW1, hg, hg2, hb1, hq, hq2, hsz⟩ := two_box w (.cells #[.int .i64 l.base, .int .i64 l.term, .slice A n c] 29) (.cells #[.int .i64 0, .int .i64 0, .slice none 0 0] 29)
  have HW := Lib.hid (And.intro hW1 (And.intro hg hg2))
  have HE := Lib.hid (And.intro hb1 (And.intro (show w.heap.size = g by omega) (And.intro (show g2 = g + 1 by omega) hsz)))
  have HI := Lib.hid (h.below hb1)
  have hl := h.len
  have hn' := h'.len_
  have hp := mayE_parts hm
  have HI' := Lib.hid (And.intro (h'.below hb1) (And.intro hs' (And.intro hn'.1 hl.1)))
  have HQ2 := Lib.hid (show ∀ W, Below W1.heap.size W1 W → W.heap[g2]? = some (.cells #[.int .i64 0, .int .i64 0, .slice none 0 0] 29 (0, 0)) from fun W hW => (hW.block g2 (obj_lt hq2)).trans hq2)
  have HCL := Lib.hid (show ∀ W, Below g2 W1 W → W.cell? ⟨g, 0, none⟩ = some (.int .i64 l.base) ∧ W.cell? ⟨g, 1, none⟩ = some (.int .i64 l.term) ∧ W.cell? ⟨g, 2, none⟩ = some (.slice A n c) from fun W hW => cells3 ((hW.block g (by omega)).trans hq))
  have H21 := Lib.hid (show ∀ W, Below W1.heap.size W1 W → Below g2 W1 W from fun W hW => hW.mono (by omega))
  have HM := Lib.hid (And.intro hb (And.intro h0 (And.intro (show i ≤ l.base + (l.l.length : Int) by omega) (And.intro hq0 hp))))
  obtain ⟨x0, x1, x2⟩ := cells3 hq
  have hres : Tryd.f48.results = #[.cell 4 29] := by kernel_rfl
  have in1 : (n' : Int) ≤ 1000 := by have := hs'.1; omega
  have in2 : (n : Int) ≤ 1000 := by omega
  have in3 : (n : Int) ≤ (c : Int) := by omega
  have in4 : (n' : Int) ≤ (c' : Int) := by omega
  clear h h' hs' hW1 hg hg2 hb1 hq hq2 hsz hl hn' hp hm hb h0 hi hl0 hq0
  go_enter Tryd.func48, Tryd.ntmps48
  go_upto_region 1 with fail
  rw [← HW.out.1, ← HW.out.2.1, ← HW.out.2.2]
  go_wp2_with fail
  go_loopw [12] (fun ii wr => ∃ (j : Nat), j ≤ n' ∧ ii = .int .i64 (j : Int) ∧ Hid (SoFar l i more j) ∧ Below W1.heap.size W1 wr) (fun ii _ => n' - (intOf ii).toNat)
  case atStart => exact ⟨0, Nat.zero_le _, rfl, Lib.hid (fun x h1 h2 => by omega), Below.refl _ _⟩
  case round =>
    obtain ⟨j, hj, rfl, HS, hbw⟩ := hrel
    have HB := Lib.hid hbw
    by_cases hlt : j < n'
    · have ii : (j : Int) < (n' : Int) := by omega
      have hjl : j < more.length := by have := HI'.out; omega
      obtain ⟨bk, off, Ad, cd, rfl, hbb, hok, q0, q1, q2, q3, -⟩ := HI'.out.1.at_ j hjl
      have hbh := behindE_at HM.out.1 j hjl
      obtain ⟨e, he⟩ : ∃ e, e = more[j] := ⟨_, rfl⟩
      rw [← he] at hok q0 q1 q2 q3 hbh
      have p0 := (hbw.cell (p := ⟨bk, off + j * 4, none⟩) hbb).trans q0
      have p1 := (hbw.cell (p := ⟨bk, off + j * 4 + 1, none⟩) hbb).trans q1
      have p2 := (hbw.cell (p := ⟨bk, off + j * 4 + 2, none⟩) hbb).trans q2
      have p3 := (hbw.cell (p := ⟨bk, off + j * 4 + 3, none⟩) hbb).trans q3
      obtain ⟨m, hmd⟩ : ∃ m, m = e.data.length := ⟨_, rfl⟩
      rw [← hmd] at p3
      obtain ⟨a, ha⟩ : ∃ a : Int, a = i + (j : Int) - l.base := ⟨_, rfl⟩
      have hale := HS.out.le HM.out.2.2.1
      rw [← ha] at hale
      have hpl := HM.out.2.2.2.2
      have CP := Lib.hid fun W => place_g l (.slice A n c) e.index W hpl.1 (by omega) (by omega) (by omega) a (by omega)
      have HBX := Lib.hid (show ∀ W, Below (wr.heap.size + 1) (wr.alloc (.cells #[.int .i64 e.index, .int .i64 e.term, .int .i64 e.kind, .slice Ad m cd] 41)) W → W.cell? ⟨wr.heap.size, 1, none⟩ = some (.int .i64 e.term) from fun W hW => (cells4 ((hW.block wr.heap.size (by omega)).trans (heap_alloc_new wr _))).2.1)
      have hsw : (wr.alloc (.cells #[.int .i64 e.index, .int .i64 e.term, .int .i64 e.kind, .slice Ad m cd] 41)).heap.size = wr.heap.size + 1 := World.size_alloc _ _
      have hbl := below_alloc wr (.cells #[.int .i64 e.index, .int .i64 e.term, .int .i64 e.kind, .slice Ad m cd] 41)
      obtain ⟨x0, x1, x2⟩ := HCL.out _ (H21.out _ (hbw.trans (hbl.mono hbw.size)))
      have HX := Lib.hid (And.intro ha (And.intro he (And.intro hsw (And.intro hbl hjl))))
      clear q0 q1 q2 q3 hbb hok hbh he hmd ha hbw hpl hsw hbl
      have hcase : a < 0 ∨ (0 ≤ a ∧ ∃ k : Nat, a = (k : Int) ∧ ∃ h : k < l.l.length, l.l[k].term = e.term) ∨ (0 ≤ a ∧ ∃ k : Nat, a = (k : Int) ∧ k ≤ n ∧ (l.l.length ≤ k ∨ ∃ h : k < l.l.length, l.l[k].term ≠ e.term)) := by
        by_cases c1 : a < 0
        · exact Or.inl c1
        · right
          obtain ⟨k, hk⟩ : ∃ k : Nat, a = (k : Int) := ⟨a.toNat, by omega⟩
          by_cases c2 : k < l.l.length
          · by_cases c3 : l.l[k].term = e.term
            · exact Or.inl ⟨by omega, k, hk, c2, c3⟩
            · exact Or.inr ⟨by omega, k, hk, by have := HI'.out; omega, Or.inr ⟨c2, c3⟩⟩
          · exact Or.inr ⟨by omega, k, hk, by have := HI'.out; omega, Or.inl (by omega)⟩
      rcases hcase with c1 | ⟨c1, k, hk, hkl, hkt⟩ | ⟨c1, k, hk, hkn, hkt⟩
      · have d1 : decide (a < 0) = true := decide_eq_true c1
        go_wp2_with (go_at_call 35; go_must (refine (CP.out _).mono ?_; rintro y w1 ⟨rfl, hb1⟩; have hbx := HX.out.2.2.2.1.trans (hb1.mono HX.out.2.2.2.1.size); have hb2 := HB.out.trans (hbx.mono HB.out.size); obtain ⟨x0, x1, x2⟩ := HCL.out w1 (H21.out w1 hb2); have HB2 := Lib.hid hb2; clear hb1 hbx hb2))
        go_quiet (fail)
        go_wp2_with fail
        go_roundw
        case rel => exact ⟨j + 1, by omega, by go_num, Lib.hid (HS.out.next HX.out.2.2.2.2 (Or.inl (by have := HX.out.1; omega))), below_drawn HB2.out _⟩
        case measure => simp [intOf]; omega
      · subst hk
        obtain ⟨bk2, off2, Ad2, cd2, rfl, hbb2, -, -, r1, -⟩ := HI.out.e.at_ k hkl
        rw [hkt] at r1
        have HTC := Lib.hid (show ∀ W, Below W1.heap.size W1 W → W.cell? ⟨bk2, off2 + k * 4 + 1, none⟩ = some (.int .i64 e.term) from fun W hW => (hW.cell (p := ⟨bk2, off2 + k * 4 + 1, none⟩) hbb2).trans r1)
        have HK := Lib.hid (show ∃ k', ∃ h : k' < l.l.length, i + (j : Int) - l.base = (k' : Int) ∧ l.l[k'].term = more[j].term from ⟨k, hkl, HX.out.1.symm, by rw [hkt, HX.out.2.1]⟩)
        have d1 : decide ((k : Int) < 0) = false := decide_eq_false (by omega)
        have d3 : (k : Int) < (n : Int) := by have := HI'.out; omega
        have d2 : decide ((k : Int) < (n : Int)) = true := decide_eq_true d3
        clear r1 hkt hbb2
        go_wp2_with (go_at_call 35; go_must (refine (CP.out _).mono ?_; rintro y w1 ⟨rfl, hb1⟩; have hbx := HX.out.2.2.2.1.trans (hb1.mono HX.out.2.2.2.1.size); have hb2 := HB.out.trans (hbx.mono HB.out.size); obtain ⟨x0, x1, x2⟩ := HCL.out w1 (H21.out w1 hb2); have y1 := HBX.out w1 (by rw [HX.out.2.2.1] at hb1; exact hb1); have y2 := HTC.out w1 hb2; have HB2 := Lib.hid hb2; clear hb1 hbx hb2))
        go_quiet (fail)
        go_wp2_with fail
        go_roundw
        case rel => exact ⟨j + 1, by omega, by go_num, Lib.hid (HS.out.next HX.out.2.2.2.2 (Or.inr HK.out)), below_drawn HB2.out _⟩
        case measure => simp [intOf]; omega
      · subst hk
        have hov := over_differ (l := l.l) (k := k) HX.out.2.2.2.2 (hkt.imp id fun ⟨h1, h2⟩ => ⟨h1, by rw [← HX.out.2.1]; exact h2⟩)
        have hmg := HS.out.merged HM.out.2.2.1 HX.out.1.symm (by have := HX.out.2.2.2.2; omega)
        rw [hov] at hmg
        have HMG := Lib.hid hmg
        have htk : (l.l.take k).length = k := by rw [List.length_take]; have := HI'.out; omega
        have hqe : q = k + (n' - j) := by rw [HM.out.2.2.2.1, hmg, List.length_append, htk, List.length_drop, ← HI'.out.2.2.1]
        have HQE := Lib.hid (And.intro hqe htk)
        have CB := Lib.hid fun W (hW : Below W1.heap.size W1 W) => behind_nil A k c (l.l.take k) W ((HI.out.e.below hW).1.front hkn) ⟨by rw [htk]; omega, fun e he => HI.out.s.2 e (List.mem_of_mem_take he)⟩
        have HOK := Lib.hid (show ∀ e ∈ (mergedE l i more).l, e.ok from fun e he => by
          rw [hmg] at he
          rcases List.mem_append.1 he with he | he
          · exact HI.out.e.2 e (List.mem_of_mem_take he)
          · exact HI'.out.1.2 e (List.mem_of_mem_drop he))
        have t1 : decide ((k : Int) < 0) = false := decide_eq_false (by omega)
        have t2 : (n' : Int) - (j : Int) ≤ 4096 - (k : Int) := by omega
        have t3 : (k : Int) ≤ (n : Int) := by omega
        have t4 : (k : Int) ≤ (c : Int) := by omega
        have t5 : (j : Int) ≤ (n' : Int) := by omega
        have hdr := (HI'.out.1.drop_ hj).1
        rw [if_neg (by omega), show Option.map (fun x : Addr => x.add (j * 4)) (some ⟨bk, off, none⟩) = some ⟨bk, off + j * 4, none⟩ from by simp [Addr.add]] at hdr
        have HDR := Lib.hid hdr
        have HSD := Lib.hid (show SmallE 1000000 100000000 (more.drop j) from ⟨by rw [List.length_drop]; have := HI'.out.2.1.1; omega, fun e he => by have := HI'.out.2.1.2 e (List.mem_of_mem_drop he); omega⟩)
        by_cases hk2 : k < n
        case' pos =>
          have hkl : k < l.l.length := by have := HI'.out; omega
          have htk2 : l.l[k].term ≠ e.term := by
            rcases hkt with h | ⟨h1, h2⟩
            · omega
            · exact h2
          obtain ⟨bk2, off2, Ad2, cd2, rfl, hbb2, -, -, r1, -⟩ := HI.out.e.at_ k hkl
          obtain ⟨tk, htk3⟩ : ∃ tk, tk = l.l[k].term := ⟨_, rfl⟩
          rw [← htk3] at r1 htk2
          have HTK := Lib.hid (show ∀ W, Below W1.heap.size W1 W → W.cell? ⟨bk2, off2 + k * 4 + 1, none⟩ = some (.int .i64 tk) from fun W hW => (hW.cell (p := ⟨bk2, off2 + k * 4 + 1, none⟩) hbb2).trans r1)
          clear r1 hbb2 htk3 hkl
          have d3 : (k : Int) < (n : Int) := by omega
          have d2 : decide ((k : Int) < (n : Int)) = true := decide_eq_true d3
          have d4 : (tk == e.term) = false := beq_eq_false_iff_ne.2 htk2
          clear hkt hov hmg htk hqe hdr hkn
          go_wp2_with (go_at_call 35; go_must (refine (CP.out _).mono ?_; rintro y w1 ⟨rfl, hb1⟩; have hbx := HX.out.2.2.2.1.trans (hb1.mono HX.out.2.2.2.1.size); have hb2 := HB.out.trans (hbx.mono HB.out.size); obtain ⟨x0, x1, x2⟩ := HCL.out w1 (H21.out w1 hb2); have y1 := HBX.out w1 (by rw [HX.out.2.2.1] at hb1; exact hb1); have y2 := HTK.out w1 hb2; have HB2 := Lib.hid hb2; clear hb1 hbx hb2))
          go_quiet (fail)
        case' neg =>
          have d3 : ¬ (k : Int) < (n : Int) := by omega
          have d2 : decide ((k : Int) < (n : Int)) = false := decide_eq_false d3
          clear hkt hov hmg htk hqe hdr hkn
          go_wp2_with (go_at_call 35; go_must (refine (CP.out _).mono ?_; rintro y w1 ⟨rfl, hb1⟩; have hbx := HX.out.2.2.2.1.trans (hb1.mono HX.out.2.2.2.1.size); have hb2 := HB.out.trans (hbx.mono HB.out.size); obtain ⟨x0, x1, x2⟩ := HCL.out w1 (H21.out w1 hb2); have y1 := HBX.out w1 (by rw [HX.out.2.2.1] at hb1; exact hb1); have HB2 := Lib.hid hb2; clear hb1 hbx hb2))
          go_quiet (fail)
        all_goals
          clear y1
          go_upto_region 8 with (go_at_call 50; go_must (refine (CB.out _ (below_drawn HB2.out _)).mono ?_; rintro y w4 ⟨A4, c4, rfl, ho4, hb4⟩; have H4 := Lib.hid (show OwnE w4 w1.heap.size (fun k => w1.heap.size ≤ k) 41 (.slice A4 k c4) (l.l.take k) ∧ Below w1.heap.size w1 w4 from ⟨ho4, (below_drawn (Below.refl _ _) _).trans hb4⟩); clear ho4 hb4))
          clear x0 x1 x2
          obtain ⟨B, hB⟩ : ∃ B, B = w1.heap.size := ⟨_, rfl⟩
          have h4 := H4.out
          rw [← hB] at h4
          have hBW : W1.heap.size ≤ B := by rw [hB]; exact HB2.out.size
          have hb14 : Below W1.heap.size W1 w4 := HB2.out.trans (h4.2.mono hBW)
          have H5 := Lib.hid (And.intro h4.1 (And.intro hb14 (And.intro hBW (show B ≤ w4.heap.size by rw [hB]; exact h4.2.size))))
          have hd0 : Below g2 W1 w4.drew := H21.out _ hb14.drew
          have HBN := Lib.hid (behind_g B (.slice A4 k c4) (l.l.take k) (some ⟨bk, off + j * 4, none⟩) (n' - j) (c' - j) (more.drop j) w4.drew H5.out.2.2.2 (h4.1.more (Below.refl _ _).drew) (HDR.out.move (fun b hb _ => hb14.drew.block b hb) fun b hb => Nat.lt_of_lt_of_le hb hBW) HSD.out (by have := HQE.out.2; omega))
          have u1 : IntKind.i64.wrap ((j : Int) + ((n' : Int) - (j : Int))) = (n' : Int) := by rw [IntWalk.i64_in _ (by omega)]; omega
          have u2 : ¬ c' = j := by omega
          clear hB h4 hBW hb14
          refine wp_region_held_drew (S := fun W => Below g2 W1 W) (by kernel_rfl) hd0 (fun hHeld => ?_)
          clear hd0
          refine wpAnyH_take (i := 0) (oi := { dst := Option.some 53, op := Op.fieldAddr 29 (Operand.tmp 2) 0, type := 0, pos := "merge.go:47", after := #[], guard := Option.none }) (v := .pointer (some ⟨g, 0, none⟩)) rfl (by kernel_rfl) (by kernel_rfl) (by kernel_rfl) (fun _ _ _ h => h) (Or.inl ⟨by rfl, ?_⟩) hHeld ?_
          · intro W hSw
            obtain ⟨z0, z1, z2⟩ := HCL.out _ hSw
            go_simp
          simp only [Act.put, List.setIfInBounds_toArray, List.set_cons_zero, List.set_cons_succ]
          refine wpAnyH_take (i := 1) (oi := { dst := Option.some 54, op := Op.load 3 (Operand.tmp 53), type := 3, pos := "merge.go:47", after := #[{ on := 0, ground := Ground.data }], guard := Option.none }) (v := .int .i64 l.base) rfl (by kernel_rfl) (by kernel_rfl) (by kernel_rfl) (fun _ _ _ h => h) (Or.inl ⟨by rfl, ?_⟩) hHeld ?_
          · intro W hSw
            obtain ⟨z0, z1, z2⟩ := HCL.out _ hSw
            go_simp
          simp only [Act.put, List.setIfInBounds_toArray, List.set_cons_zero, List.set_cons_succ]
          refine wpAnyH_take (i := 2) (oi := { dst := Option.some 55, op := Op.fieldAddr 29 (Operand.tmp 2) 1, type := 0, pos := "merge.go:47", after := #[], guard := Option.none }) (v := .pointer (some ⟨g, 1, none⟩)) rfl (by kernel_rfl) (by kernel_rfl) (by kernel_rfl) (fun _ _ _ h => h) (Or.inl ⟨by rfl, ?_⟩) hHeld ?_
          · intro W hSw
            obtain ⟨z0, z1, z2⟩ := HCL.out _ hSw
            go_simp
          simp only [Act.put, List.setIfInBounds_toArray, List.set_cons_zero, List.set_cons_succ]
          refine wpAnyH_take (i := 3) (oi := { dst := Option.some 56, op := Op.load 3 (Operand.tmp 55), type := 3, pos := "merge.go:47", after := #[{ on := 2, ground := Ground.data }], guard := Option.none }) (v := .int .i64 l.term) rfl (by kernel_rfl) (by kernel_rfl) (by kernel_rfl) (fun _ _ _ h => h) (Or.inl ⟨by rfl, ?_⟩) hHeld ?_
          · intro W hSw
            obtain ⟨z0, z1, z2⟩ := HCL.out _ hSw
            go_simp
          simp only [Act.put, List.setIfInBounds_toArray, List.set_cons_zero, List.set_cons_succ]
          refine wpAnyH_take (i := 4) (oi := { dst := Option.some 57, op := Op.move (Operand.tmp 9), type := 27, pos := "merge.go:47", after := #[], guard := Option.none }) (v := .slice A4 k c4) rfl (by kernel_rfl) (by kernel_rfl) (by kernel_rfl) (fun _ _ _ h => h) (Or.inl ⟨by rfl, ?_⟩) hHeld ?_
          · intro W hSw
            obtain ⟨z0, z1, z2⟩ := HCL.out _ hSw
            go_simp
          simp only [Act.put, List.setIfInBounds_toArray, List.set_cons_zero, List.set_cons_succ]
          refine wpAnyH_take (i := 5) (oi := { dst := Option.some 58, op := Op.move (Operand.tmp 1), type := 27, pos := "merge.go:47", after := #[], guard := Option.none }) (v := .slice (some ⟨bk, off, none⟩) n' c') rfl (by kernel_rfl) (by kernel_rfl) (by kernel_rfl) (fun _ _ _ h => h) (Or.inl ⟨by rfl, ?_⟩) hHeld ?_
          · intro W hSw
            obtain ⟨z0, z1, z2⟩ := HCL.out _ hSw
            go_simp
          simp only [Act.put, List.setIfInBounds_toArray, List.set_cons_zero, List.set_cons_succ]
          refine wpAnyH_take (i := 6) (oi := { dst := Option.some 59, op := Op.move (Operand.tmp 5), type := 3, pos := "merge.go:47", after := #[], guard := Option.none }) (v := .int .i64 (j : Int)) rfl (by kernel_rfl) (by kernel_rfl) (by kernel_rfl) (fun _ _ _ h => h) (Or.inl ⟨by rfl, ?_⟩) hHeld ?_
          · intro W hSw
            obtain ⟨z0, z1, z2⟩ := HCL.out _ hSw
            go_simp
          simp only [Act.put, List.setIfInBounds_toArray, List.set_cons_zero, List.set_cons_succ]
          refine wpAnyH_take (i := 7) (oi := { dst := Option.some 60, op := Op.move (Operand.tmp 5), type := 3, pos := "merge.go:47", after := #[], guard := Option.none }) (v := .int .i64 (j : Int)) rfl (by kernel_rfl) (by kernel_rfl) (by kernel_rfl) (fun _ _ _ h => h) (Or.inl ⟨by rfl, ?_⟩) hHeld ?_
          · intro W hSw
            obtain ⟨z0, z1, z2⟩ := HCL.out _ hSw
            go_simp
          simp only [Act.put, List.setIfInBounds_toArray, List.set_cons_zero, List.set_cons_succ]
          refine wpAnyH_take (i := 8) (oi := { dst := Option.some 61, op := Op.move (Operand.tmp 8), type := 3, pos := "merge.go:47", after := #[], guard := Option.none }) (v := .int .i64 ((n' : Int) - (j : Int))) rfl (by kernel_rfl) (by kernel_rfl) (by kernel_rfl) (fun _ _ _ h => h) (Or.inl ⟨by rfl, ?_⟩) hHeld ?_
          · intro W hSw
            obtain ⟨z0, z1, z2⟩ := HCL.out _ hSw
            go_simp
          simp only [Act.put, List.setIfInBounds_toArray, List.set_cons_zero, List.set_cons_succ]
          refine wpAnyH_take (i := 9) (oi := { dst := Option.some 62, op := Op.binOp BinOp.add 3 (Operand.tmp 60) (Operand.tmp 61) 3, type := 3, pos := "merge.go:47", after := #[{ on := 7, ground := Ground.data }, { on := 8, ground := Ground.data }], guard := Option.none }) (v := .int .i64 (n' : Int)) rfl (by kernel_rfl) (by kernel_rfl) (by kernel_rfl) (fun _ _ _ h => h) (Or.inl ⟨by rfl, ?_⟩) hHeld ?_
          · intro W hSw
            obtain ⟨z0, z1, z2⟩ := HCL.out _ hSw
            go_simp
          simp only [Act.put, List.setIfInBounds_toArray, List.set_cons_zero, List.set_cons_succ]
          refine wpAnyH_take (i := 10) (oi := { dst := Option.some 63, op := Op.slice 27 (Operand.tmp 58) (Option.some (Operand.tmp 59)) (Option.some (Operand.tmp 62)) Option.none, type := 27, pos := "merge.go:47", after := #[{ on := 5, ground := Ground.data }, { on := 6, ground := Ground.data }, { on := 9, ground := Ground.data }], guard := Option.none }) (v := .slice (some ⟨bk, off + j * 4, none⟩) (n' - j) (c' - j)) rfl (by kernel_rfl) (by kernel_rfl) (by kernel_rfl) (fun _ _ _ h => h) (Or.inl ⟨by rfl, ?_⟩) hHeld ?_
          · intro W hSw
            obtain ⟨z0, z1, z2⟩ := HCL.out _ hSw
            go_simp
          simp only [Act.put, List.setIfInBounds_toArray, List.set_cons_zero, List.set_cons_succ]
          refine wpAnyH_ready (rs := [11]) (by kernel_rfl) (by simp) ?_
          refine AllReadyH.cons (o := { dst := Option.some 64, op := Op.call { callee := Callee.value (Operand.func 50), args := #[Operand.tmp 57, Operand.tmp 63], argTypes := #[27, 27] }, type := 27, pos := "merge.go:47", after := #[{ on := 4, ground := Ground.data }, { on := 10, ground := Ground.data }], guard := Option.none }) rfl (fun K hK => ?_) AllReadyH.nil
          go_simp
          refine HBN.out.mono ?_
          rintro y w6 ⟨v6, rfl, ho6, hb6⟩
          have hlen6 : (l.l.take k ++ more.drop j).length = q := by rw [List.length_append, HQE.out.2, List.length_drop, ← HI'.out.2.2.1, HQE.out.1]
          obtain ⟨A6, c6, rfl, -, -⟩ := ho6.form hlen6
          have hb6' : Below W1.heap.size W1 w6 := H5.out.2.1.drew.trans (hb6.mono H5.out.2.2.1)
          rw [← HMG.out] at ho6
          have H6 := Lib.hid (And.intro ho6 hb6')
          refine hK.out _ _ (H21.out _ hb6') (fun hHeld2 => ?_)
          clear hK K hHeld ho6 hb6 hlen6
          have hHeld := hHeld2
          clear hHeld2
          refine wpAnyH_take (i := 12) (oi := { dst := Option.some 65, op := Op.build 29 #[(0, Operand.tmp 54), (1, Operand.tmp 56), (2, Operand.tmp 64)], type := 29, pos := "merge.go:47", after := #[{ on := 1, ground := Ground.data }, { on := 3, ground := Ground.data }, { on := 11, ground := Ground.data }], guard := Option.none }) (v := .agg #[.int .i64 l.base, .int .i64 l.term, .slice A6 q c6]) rfl (by kernel_rfl) (by kernel_rfl) (by kernel_rfl) (fun _ _ _ h => h) (Or.inl ⟨by rfl, ?_⟩) hHeld ?_
          · intro W hSw
            go_simp
          simp only [Act.put, List.setIfInBounds_toArray, List.set_cons_zero, List.set_cons_succ]
          have hS := HQ2.out _ hb6'
          clear hb6'
          obtain ⟨y0, y1, y2⟩ := cells3 hS
          have f0 := frozen_own hS 0
          have f1 := frozen_own hS 1
          have f2 := frozen_own hS 2
          refine wpAnyH_ready (rs := [13]) (by kernel_rfl) (by simp) ?_
          refine AllReadyH.cons (o := { dst := Option.none, op := Op.store 29 (Operand.tmp 4) (Operand.tmp 65), type := 0, pos := "merge.go:47", after := #[{ on := 12, ground := Ground.data }, { on := 11, ground := Ground.chain }, { on := 0, ground := Ground.phase }, { on := 1, ground := Ground.phase }, { on := 2, ground := Ground.phase }, { on := 3, ground := Ground.phase }, { on := 4, ground := Ground.phase }, { on := 5, ground := Ground.phase }, { on := 6, ground := Ground.phase }, { on := 7, ground := Ground.phase }, { on := 8, ground := Ground.phase }, { on := 9, ground := Ground.phase }, { on := 10, ground := Ground.phase }, { on := 11, ground := Ground.phase }, { on := 12, ground := Ground.phase }], guard := Option.none }) rfl (fun K hK => ?_) AllReadyH.nil
          go_simp
          obtain ⟨WF, hWF, z0, z1, z2, hbF, hoth, hsz2⟩ := logRes (b0 := .int .i64 l.base) (b1 := .int .i64 l.term) (b2 := .slice A6 q c6) hS (H21.out _ H6.out.2) (Nat.le_refl g2)
          unfold put3 at hWF
          rw [hWF]
          refine hK.out _ _ hbF (fun hHeld2 => ?_)
          have HF := Lib.hid (And.intro hbF (And.intro hoth hsz2))
          clear hK K hHeld hHeld2 hbF hoth hsz2 hWF y0 y1 y2 f0 f1 f2 hS
          refine wpAnyH_done (by kernel_rfl) ?_ _
          go_wp2_with fail
          refine bodyPost_ret (v := .agg #[.int .i64 l.base, .int .i64 l.term, .slice A6 q c6]) ?_ rfl ⟨A6, c6, rfl, ?_, HE.out.1.trans (HF.out.1.mono (by have := HE.out; omega))⟩
          · simp only [results, hres]
            go_simp
          · refine H6.out.1.fents (Nat.le_trans HE.out.1.size H5.out.2.2.1) (fun b hb _ => HF.out.2.1 b ?_) (by rw [HF.out.2.2]; exact Nat.le_refl _) HOK.out
            have := H5.out.2.2.1
            have := HE.out
            omega
    · obtain rfl : j = n' := by omega
      have ii : ¬ (j : Int) < (j : Int) := by omega
      have hal := HI'.out.2.2.1
      have hmg : (mergedE l i more).l = l.l := (show SoFar l i more more.length by rw [← hal]; exact HS.out).all HM.out.2.2.1
      have hqn : q = n := by rw [HM.out.2.2.2.1, hmg, HI'.out.2.2.2]
      have HMG := Lib.hid (And.intro hmg hqn)
      have HCN := Lib.hid (clone_g l A n c wr (HI.out.e.below hbw) HI.out.s)
      obtain ⟨x0, x1, x2⟩ := HCL.out wr (H21.out wr hbw)
      clear hal hmg hqn hbw
      go_wp2_with (go_at_call 46; go_must (refine HCN.out.mono ?_; rintro y w4 ⟨A4, c4, rfl, hf4, hb4, -⟩; have hb5 := HB.out.trans (hb4.mono HB.out.size); have hS := HQ2.out w4 hb5; obtain ⟨y0, y1, y2⟩ := cells3 hS; have f0 := frozen_own hS 0; have f1 := frozen_own hS 1; have f2 := frozen_own hS 2; have H4 := Lib.hid (And.intro hS (And.intro hb5 hf4)); clear hS hb4 hb5 hf4))
      obtain ⟨WF, hWF, z0, z1, z2, hbF, hoth, hsz2⟩ := logRes (b0 := .int .i64 l.base) (b1 := .int .i64 l.term) (b2 := .slice A4 n c4) H4.out.1 (H21.out _ H4.out.2.1) (Nat.le_refl g2)
      unfold put3 at hWF
      rw [hWF]
      have HF := Lib.hid (And.intro hbF (And.intro hoth hsz2))
      clear hbF hoth hsz2 hWF y0 y1 y2 f0 f1 f2 x0 x1 x2
      rw [HMG.out.1, HMG.out.2]
      refine bodyPost_ret (v := .agg #[.int .i64 l.base, .int .i64 l.term, .slice A4 n c4]) ?_ rfl ⟨A4, c4, rfl, ?_, HE.out.1.trans (HF.out.1.mono (by have := HE.out; omega))⟩
      · simp only [results, hres]
        go_simp
      · refine ⟨H4.out.2.2.1.move (fun b hb _ => HF.out.2.1 b ?_) fun b hb => ⟨?_, by rw [HF.out.2.2]; exact hb.2⟩, H4.out.2.2.2⟩
        · have := hb.1
          have := HB.out.size
          have := HE.out
          omega
        · have := hb.1
          have := HB.out.size
          have := HE.out.1.size
          omega

end Go.Proofs.YtlngcfaadfkbnaaDoor.pk
