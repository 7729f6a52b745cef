/-
  The law EntryKeeps: walked.
-/
import Derived.Test.YtlngcfaadfkbnaaEnNewer
namespace Go.Proofs.Ytlngcfaadfkbnaa.pk
open Go Go.RowKit
set_option maxRecDepth 100000

theorem small_drop {k d : Nat} {l : List En} (h : SmallE k d l) (j : Nat) : SmallE k d (l.drop j) := ⟨by rw [List.length_drop]; have := h.1; omega, fun e he => h.2 e (List.mem_of_mem_drop he)⟩
theorem compactE_ok {l : Lg} {i : Int} (h : (compactE l i).2 = 0) : mayE l = true ∧ l.base ≤ i ∧ i ≤ l.base + l.l.length := by
  unfold compactE at h
  by_cases h0 : (termE l i).2 = 0
  · have := termE_bound h0
    exact ⟨this.1, this.2.1, this.2.2.1⟩
  · rw [if_neg h0] at h
    exact absurd h h0

set_option maxHeartbeats 16000000 in
theorem keeps_true (C : ConG) (l : Lg) (A : Option Addr) (n c : Nat) (i : Int) (w : World) (h : Ents w (.slice A n c) l.l) (hi : inI l.base) (ht : inI l.term) (hk : inI i) (hd : ∀ e ∈ l.l, e.data.length ≤ 140737488355328) :
    Calls Try.prog 3 #[.agg #[.int .i64 l.base, .int .i64 l.term, .slice A n c], .int .i64 i] w fun y w' => y = .returned (.bool true) ∧ Below w.heap.size w w' := by
  obtain ⟨W1, g, hW1, hg, hb1, hq, hsz⟩ := one_box w (.cells #[.int .i64 l.base, .int .i64 l.term, .slice A n c] 24)
  have HW := Lib.hid (And.intro hW1 hg)
  have HE := Lib.hid (And.intro hb1 hq)
  have hcells : ∀ W, Below W1.heap.size W1 W → W.cell? ⟨g, 0, none⟩ = some (.int .i64 l.base) ∧ W.cell? ⟨g, 1, none⟩ = some (.int .i64 l.term) ∧ W.cell? ⟨g, 2, none⟩ = some (.slice A n c) := fun W hW => cells3 ((hW.block g (obj_lt hq)).trans hq)
  have HCL := Lib.hid hcells
  obtain ⟨x0, x1, x2⟩ := hcells W1 (Below.refl _ _)
  have HN := Lib.hid (And.intro h (And.intro hi (And.intro ht hk)))
  obtain ⟨lo, hlo⟩ : ∃ b, b = longE l.l := ⟨_, rfl⟩
  obtain ⟨my, hmy⟩ : ∃ b, b = mayE l := ⟨_, rfl⟩
  have HL := Lib.hid (long_any A n c l.l W1 (h.below hb1) hd lo hlo)
  have HM := Lib.hid (May_any l A n c W1 (h.below hb1) hi ht my hmy)
  by_cases hno : lo = true ∨ my = false
  · have hno' : lo = true ∨ (lo = false ∧ my = false) := by
      cases lo
      · rcases hno with h | h
        · cases h
        · exact Or.inr ⟨rfl, h⟩
      · exact Or.inl rfl
    clear h hi ht hk hd hlo hmy hno hW1 hg hb1 hq hsz hcells
    rcases hno' with rfl | ⟨rfl, rfl⟩
    all_goals
      go_enter Try.func3, Try.ntmps3
      go_upto_region 1 with fail
      rw [← HW.out.1, ← HW.out.2]
      go_wp2_with (first
        | (go_at_call 5; go_must (refine HL.out.mono ?_; rintro y w1 ⟨rfl, rfl⟩))
        | (go_at_call 6; go_must (refine HM.out.mono ?_; rintro y w1 ⟨rfl, hb1⟩; have HB := Lib.hid (HE.out.1.trans (hb1.mono HE.out.1.size)); clear hb1))
        | (go_at_call 7; go_must (refine (sureG C _).mono ?_; rintro y w2 ⟨rfl, hb2⟩; have HB2 := Lib.hid (by first | exact HB.out.trans (hb2.mono HB.out.size) | exact HE.out.1.trans (hb2.mono HE.out.1.size)); clear hb2)))
      go_ret
      exact ⟨rfl, HB2.out⟩
  · obtain ⟨rfl, rfl⟩ : lo = false ∧ my = true := by
      cases lo <;> cases my <;> simp_all
    have hsm := longE_small hlo.symm
    have hp := mayE_parts hmy.symm
    have hle := lastE_may hmy.symm
    obtain ⟨e1, e2, hee⟩ : ∃ e1 e2, endE l = (e1, e2) := ⟨_, _, rfl⟩
    rw [hee] at hp hle
    have HG := Lib.hid fun W (hW : Below w.heap.size w W) => giveLog_any l A n c W (h.below hW) (small_more hsm (by omega) (by omega))
    have HLa := Lib.hid fun A1 c1 W (hW : Ents W (.slice A1 n c1) l.l) => C.gLast l A1 n c1 W hW hi ht (small_more hsm (by omega) (by omega)) (e1, e2) hle.symm
    obtain ⟨r, k, hrk⟩ : ∃ r k, compactE l i = (r, k) := ⟨_, _, rfl⟩
    obtain ⟨q, hq'⟩ : ∃ q, q = r.l.length := ⟨_, rfl⟩
    have HCo := Lib.hid fun A1 c1 W (hW : Ents W (.slice A1 n c1) l.l) => C.gCompact l A1 n c1 i W hW hi ht (small_more hsm (by omega) (by omega)) hk (r, k) hrk.symm q hq'
    simp only at HLa HCo
    have HI := Lib.hid (And.intro hi (And.intro ht hk))
    have HP := Lib.hid hp
    have hmy' := hmy.symm
    clear h hd hlo hmy hno hW1 hg hb1 hq hsz hcells
    by_cases hk0 : k = 0
    · subst hk0
      obtain ⟨b1, b2, b3⟩ := compactE_ok (l := l) (i := i) (by rw [hrk])
      obtain ⟨hc1, hc2, hc3, hc4, hc5⟩ := compact_may b1 b2 b3 r (by rw [hrk])
      have hlr := lastE_may hc3
      rw [hc4, hee] at hlr
      have hrl : r.l = l.l.drop (i - l.base).toNat := by
        rw [hrk] at hc1
        have h0 : (termE l i).2 = 0 := (hc5 i (by omega) b3).2
        unfold compactE at hrk
        rw [if_pos h0] at hrk
        injection hrk with h1 _
        rw [← h1]
      have hsr : SmallE 1000 100000 r.l := by rw [hrl]; exact small_drop (small_more hsm (by omega) (by omega)) _
      have hir : inI r.base := by rw [hc2]; exact hk
      have htr : inI r.term := by have := headE_iff.1 (mayE_iff.1 hc3).1; exact inI_of_le this.2.2.1 (by omega)
      have HLb := Lib.hid fun A1 c1 W (hW : Ents W (.slice A1 q c1) r.l) => C.gLast r A1 q c1 W hW hir htr hsr (e1, e2) hlr.symm
      have HTx := Lib.hid fun A1 c1 W (hW : Ents W (.slice A1 n c1) l.l) (k : Int) (hk : inI k) z (hz : z = termE l k) => C.gTerm l A1 n c1 k W hW hi ht (small_more hsm (by omega) (by omega)) hk z hz
      have HTy := Lib.hid fun A1 c1 W (hW : Ents W (.slice A1 q c1) r.l) (k : Int) (hk : inI k) z (hz : z = termE r k) => C.gTerm r A1 q c1 k W hW hir htr hsr hk z hz
      simp only [hc2] at HLb HTy HCo
      simp only [er_zero] at HCo
      obtain ⟨rt, hrt⟩ : ∃ rt, rt = r.term := ⟨_, rfl⟩
      simp only [← hrt] at HLb HTy HCo
      obtain ⟨rl, hrl'⟩ : ∃ rl, rl = r.l := ⟨_, rfl⟩
      simp only [← hrl'] at HLb HTy HCo
      have HC5 := Lib.hid hc5
      have hp5 := hp.2.2.2.2.2.1
      have hp6 := hp.2.2.2.2.2.1
      obtain ⟨p0, p1, p2, p3, p4, p5, p6, -, -⟩ := hp
      simp only at p5 p6
      have b4 : i ≤ e1 := by omega
      have HB4 := Lib.hid (And.intro b2 p5)
      clear hmy' hp5 hp6 hee hle hrk hq' hc1 hc2 hc3 hc4 hc5 hlr hrl hsr hir htr hrt hrl' hsm b3 p4 p5 hi ht hk
      go_enter Try.func3, Try.ntmps3
      go_upto_region 1 with fail
      rw [← HW.out.1, ← HW.out.2]
      go_upto_region 4 with (first
        | (go_at_call 5; go_must (refine HL.out.mono ?_; rintro y w1 ⟨rfl, rfl⟩))
        | (go_at_call 6; go_must (refine HM.out.mono ?_; rintro y w1 ⟨rfl, hb1⟩; obtain ⟨x0, x1, x2⟩ := HCL.out w1 hb1; have HB1 := Lib.hid hb1; have HB := Lib.hid (HE.out.1.trans (hb1.mono HE.out.1.size)); clear hb1))
        | (go_at_call 8; go_must (refine (HG.out _ HB.out).mono ?_; rintro y w2 ⟨A1, c1, rfl, hi2, hb2⟩; have H2 := Lib.hid (And.intro hi2 (HB.out.trans (hb2.mono HB.out.size))); have H2b := Lib.hid (HB1.out.trans (hb2.mono HB1.out.size)); clear hi2 hb2)))
      have hqx := heap_alloc_new w2 (.cells #[.int .i64 l.base, .int .i64 l.term, .slice A1 n c1] 30)
      have hb3 := below_alloc w2 (.cells #[.int .i64 l.base, .int .i64 l.term, .slice A1 n c1] 30)
      obtain ⟨W3, hW3⟩ : ∃ W, W = w2.alloc (.cells #[.int .i64 l.base, .int .i64 l.term, .slice A1 n c1] 30) := ⟨_, rfl⟩
      obtain ⟨gx, hgx⟩ : ∃ g, g = w2.heap.size := ⟨_, rfl⟩
      rw [← hW3] at hqx hb3 ⊢
      rw [← hgx] at hqx ⊢
      have H3 := Lib.hid (And.intro hqx (And.intro (H2.out.1.below hb3) (H2.out.2.trans (hb3.mono H2.out.2.size))))
      have H3b := Lib.hid (H2b.out.trans (hb3.mono H2b.out.size))
      clear x0 x1 x2 hW3 hgx hb3
      obtain ⟨x0, x1, x2⟩ := cells3 hqx
      clear hqx
      go_upto_region 5 with (go_at_call 9; go_must (refine (HCo.out _ _ _ H3.out.2.1).mono ?_; rintro y w4 ⟨A4, c4, rfl, hi4, hb4⟩; have H4 := Lib.hid (And.intro hi4 hb4); clear hi4 hb4))
      have hqy := heap_alloc_new w4 (.cells #[.int .i64 i, .int .i64 rt, .slice A4 q c4] 30)
      have hb5 := below_alloc w4 (.cells #[.int .i64 i, .int .i64 rt, .slice A4 q c4] 30)
      obtain ⟨W5, hW5⟩ : ∃ W, W = w4.alloc (.cells #[.int .i64 i, .int .i64 rt, .slice A4 q c4] 30) := ⟨_, rfl⟩
      obtain ⟨gy, hgy⟩ : ∃ g, g = w4.heap.size := ⟨_, rfl⟩
      rw [← hW5] at hqy hb5 ⊢
      rw [← hgy] at hqy ⊢
      have hb35 : Below W3.heap.size W3 W5 := H4.out.2.trans (hb5.mono H4.out.2.size)
      have hqx5 := (hb35.block gx (obj_lt H3.out.1)).trans H3.out.1
      have H5 := Lib.hid (And.intro (show ∀ W, Below W5.heap.size W5 W → (W.cell? ⟨gx, 0, none⟩ = some (.int .i64 l.base) ∧ W.cell? ⟨gx, 1, none⟩ = some (.int .i64 l.term) ∧ W.cell? ⟨gx, 2, none⟩ = some (.slice A1 n c1)) ∧ (W.cell? ⟨gy, 0, none⟩ = some (.int .i64 i) ∧ W.cell? ⟨gy, 1, none⟩ = some (.int .i64 rt) ∧ W.cell? ⟨gy, 2, none⟩ = some (.slice A4 q c4)) ∧ Ents W (.slice A1 n c1) l.l ∧ Ents W (.slice A4 q c4) rl from fun W hW => ⟨cells3 ((hW.block gx (obj_lt hqx5)).trans hqx5), cells3 ((hW.block gy (obj_lt hqy)).trans hqy), (H3.out.2.1.below hb35).below hW, (H4.out.1.below hb5).below hW⟩) (H3.out.2.2.trans (hb35.mono H3.out.2.2.size)))
      clear x0 x1 x2 hW5 hgy hb5 hb35 hqx5 hqy
      obtain ⟨⟨x0, x1, x2⟩, ⟨y0, y1, y2⟩, -, -⟩ := H5.out.1 W5 (Below.refl _ _)
      go_upto_region 11 with (go_at_call 10; first
        | (with_reducible refine (HLa.out _ _ _ (H5.out.1 _ (Below.refl _ _)).2.2.1).mono ?_; rintro y w6 ⟨rfl, hb6⟩; obtain ⟨⟨x0, x1, x2⟩, ⟨y0, y1, y2⟩, -, -⟩ := H5.out.1 w6 hb6; have H6 := Lib.hid hb6; clear hb6)
        | (with_reducible refine (HLb.out _ _ _ (H5.out.1 _ H6.out).2.2.2).mono ?_; rintro y w7 ⟨rfl, hb7⟩; have H7 := Lib.hid (H6.out.trans (hb7.mono H6.out.size)); obtain ⟨⟨x0, x1, x2⟩, ⟨y0, y1, y2⟩, -, -⟩ := H5.out.1 w7 H7.out; clear hb7))
      go_wp2_with fail
      clear x0 x1 x2 y0 y1 y2
      go_loopw [12] (fun ii wr => ∃ (j : Nat), i + (j : Int) ≤ e1 + 1 ∧ j ≤ 300 ∧ ii = .int .i64 (i + (j : Int)) ∧ Below W5.heap.size W5 wr) (fun ii _ => (e1 + 1 - intOf ii).toNat)
      case atStart => exact ⟨0, by omega, by omega, by simp, H7.out⟩
      case round =>
        obtain ⟨j, hj, hj3, rfl, hbw⟩ := hrel
        obtain ⟨⟨x0, x1, x2⟩, ⟨y0, y1, y2⟩, hex, hey⟩ := H5.out.1 wr hbw
        have HBW := Lib.hid hbw
        have HX := Lib.hid (And.intro hex hey)
        clear hbw hex hey
        have hj0 : (0 : Int) ≤ (j : Int) := by omega
        by_cases hgo : i + (j : Int) ≤ e1 ∧ j < 300
        · obtain ⟨h1, h2⟩ := hgo
          have h2' : (j : Int) < 300 := by omega
          have s1 : i + (j : Int) - i = (j : Int) := by omega
          obtain ⟨kk, hkk⟩ : ∃ kk, kk = i + (j : Int) := ⟨_, rfl⟩
          obtain ⟨z, z2, hz⟩ : ∃ z z2, termE l kk = (z, z2) := ⟨_, _, rfl⟩
          have h5 := HC5.out kk (by omega) (by have := HB4.out; omega)
          rw [hz] at h5
          obtain rfl : z2 = 0 := h5.2
          have hk : inI kk := ⟨by omega, by omega⟩
          have CX := Lib.hid (HTx.out _ _ _ HX.out.1 kk hk _ hz.symm)
          have CY := Lib.hid fun W (hW : Below W5.heap.size W5 W) => HTy.out _ _ _ (H5.out.1 W hW).2.2.2 kk hk _ h5.1.symm
          simp only [er_zero] at CX CY
          rw [hkk] at CX CY
          clear hz h5 hk hkk h2
          go_wp2_with (go_at_call 11; first
            | (with_reducible refine CX.out.mono ?_; rintro y w8 ⟨rfl, hb8⟩; have H8 := Lib.hid (HBW.out.trans (hb8.mono HBW.out.size)); obtain ⟨⟨x0, x1, x2⟩, ⟨y0, y1, y2⟩, -, -⟩ := H5.out.1 w8 H8.out; clear hb8)
            | (with_reducible refine (CY.out _ H8.out).mono ?_; rintro y w9 ⟨rfl, hb9⟩; have H9 := Lib.hid (H8.out.trans (hb9.mono H8.out.size)); clear hb9))
          go_roundw
          case rel => exact ⟨j + 1, by omega, by omega, by rw [show ((j + 1 : Nat) : Int) = (j : Int) + 1 from rfl, ← Int.add_assoc], H9.out⟩
          case measure => simp [intOf]; omega
        · have hend : (¬ i + (j : Int) ≤ e1) ∨ (i + (j : Int) ≤ e1 ∧ ¬ (j : Int) < 300) := by omega
          have s1 : i + (j : Int) - i = (j : Int) := by omega
          clear hgo
          rcases hend with h1 | ⟨h1, h2⟩
          all_goals
            go_wp2_with (go_at_call 7; go_must (refine (sureG C _).mono ?_; rintro y w8 ⟨rfl, hb8⟩; have H8 := Lib.hid (HBW.out.trans (hb8.mono HBW.out.size)); clear hb8))
            go_ret
            exact ⟨rfl, H5.out.2.trans (H8.out.mono H5.out.2.size)⟩
    · have hbad : r = zl ∧ (e1 < i ∨ (¬ e1 < i ∧ i < l.base)) := by
        have h1 := hrk
        unfold compactE at h1
        have hmy' : mayE l = true := hmy'
        by_cases h0 : (termE l i).2 = 0
        · rw [if_pos h0] at h1; injection h1 with _ h2; exact absurd h2.symm hk0
        · rw [if_neg h0] at h1
          injection h1 with h2 h3
          refine ⟨h2.symm, ?_⟩
          unfold termE at h0
          rw [hmy', if_neg (by simp), hee] at h0
          simp only at h0
          by_cases c1 : i < 0 ∨ e1 < i
          · have := hp.1; omega
          · rw [if_neg c1] at h0
            by_cases c2 : i < l.base
            · omega
            · rw [if_neg c2] at h0
              split at h0 <;> exact absurd rfl h0
      obtain ⟨rfl, hcase⟩ := hbad
      obtain rfl : q = 0 := hq'
      have e0 : zl.base = 0 := rfl
      have e1' : zl.term = 0 := rfl
      have e2' : zl.l = [] := rfl
      simp only [er_ne hk0, e0, e1', e2'] at HCo
      have hp5 := hp.2.2.2.2.2.1
      clear hee hle hrk hsm hi ht hk hp hmy' e0 e1' e2' hp5
      go_enter Try.func3, Try.ntmps3
      go_upto_region 1 with fail
      rw [← HW.out.1, ← HW.out.2]
      go_upto_region 4 with (first
        | (go_at_call 5; go_must (refine HL.out.mono ?_; rintro y w1 ⟨rfl, rfl⟩))
        | (go_at_call 6; go_must (refine HM.out.mono ?_; rintro y w1 ⟨rfl, hb1⟩; obtain ⟨x0, x1, x2⟩ := HCL.out w1 hb1; have HB1 := Lib.hid hb1; have HB := Lib.hid (HE.out.1.trans (hb1.mono HE.out.1.size)); clear hb1))
        | (go_at_call 8; go_must (refine (HG.out _ HB.out).mono ?_; rintro y w2 ⟨A1, c1, rfl, hi2, hb2⟩; have H2 := Lib.hid (And.intro hi2 (HB.out.trans (hb2.mono HB.out.size))); have H2b := Lib.hid (HB1.out.trans (hb2.mono HB1.out.size)); clear hi2 hb2)))
      have hqx := heap_alloc_new w2 (.cells #[.int .i64 l.base, .int .i64 l.term, .slice A1 n c1] 30)
      have hb3 := below_alloc w2 (.cells #[.int .i64 l.base, .int .i64 l.term, .slice A1 n c1] 30)
      obtain ⟨W3, hW3⟩ : ∃ W, W = w2.alloc (.cells #[.int .i64 l.base, .int .i64 l.term, .slice A1 n c1] 30) := ⟨_, rfl⟩
      obtain ⟨gx, hgx⟩ : ∃ g, g = w2.heap.size := ⟨_, rfl⟩
      rw [← hW3] at hqx hb3 ⊢
      rw [← hgx] at hqx ⊢
      have H3 := Lib.hid (And.intro hqx (And.intro (H2.out.1.below hb3) (H2.out.2.trans (hb3.mono H2.out.2.size))))
      have H3b := Lib.hid (H2b.out.trans (hb3.mono H2b.out.size))
      clear x0 x1 x2 hW3 hgx hb3
      obtain ⟨x0, x1, x2⟩ := cells3 hqx
      clear hqx
      go_upto_region 5 with (go_at_call 9; go_must (refine (HCo.out _ _ _ H3.out.2.1).mono ?_; rintro y w4 ⟨A4, c4, rfl, hi4, hb4⟩; have H4 := Lib.hid (And.intro hi4 hb4); clear hi4 hb4))
      have hb35 := H4.out.2.alloc H4.out.2.size (.cells #[.int .i64 0, .int .i64 0, .slice A4 0 c4] 30)
      obtain ⟨W5, hW5⟩ : ∃ W, W = w4.alloc (.cells #[.int .i64 0, .int .i64 0, .slice A4 0 c4] 30) := ⟨_, rfl⟩
      rw [← hW5] at hb35 ⊢
      have H5 := Lib.hid hb35
      clear x0 x1 x2 hW5
      obtain ⟨x0, x1, x2⟩ := cells3 ((hb35.block gx (obj_lt H3.out.1)).trans H3.out.1)
      clear hb35
      rcases hcase with h1 | ⟨h1, h2⟩
      all_goals
        go_wp2_with (first
          | (go_at_call 10; go_must (refine (HLa.out _ _ _ (H3.out.2.1.below H5.out)).mono ?_; rintro y w6 ⟨rfl, hb6⟩; have H6 := Lib.hid (H5.out.trans (hb6.mono H5.out.size)); obtain ⟨y0, y1, y2⟩ := HCL.out w6 (H3b.out.trans (H6.out.mono H3b.out.size)); clear hb6))
          | (go_at_call 7; go_must (refine (sureG C _).mono ?_; rintro y w8 ⟨rfl, hb8⟩; have H8 := Lib.hid (H6.out.trans (hb8.mono H6.out.size)); clear hb8)))
        go_ret
        exact ⟨rfl, H3.out.2.2.trans (H8.out.mono H3.out.2.2.size)⟩

end Go.Proofs.Ytlngcfaadfkbnaa.pk
