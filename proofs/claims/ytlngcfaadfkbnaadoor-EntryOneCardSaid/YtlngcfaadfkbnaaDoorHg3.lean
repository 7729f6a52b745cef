/-
  The program's own log: its copies.
-/
import Derived.Test.YtlngcfaadfkbnaaDoorHg2
import Derived.Test.YtlngcfaadfkbnaaDoorGiv
namespace Go.Proofs.YtlngcfaadfkbnaaDoor.pk
open Go Go.RowKit
set_option maxRecDepth 100000

/-- bytes.Clone. -/
theorem BClone_any (w : World) (A : Option Addr) (n c : Nat) (bs : List UInt8) (h : Bys w (.slice A n c) bs) (hb : n ≤ 1000000000) :
    Calls Tryd.prog 52 #[.slice A n c] w fun x w' => ∃ A1 c1, x = .returned (.slice A1 n c1) ∧ SlT w' (fun q => w.heap.size ≤ q ∧ q < w'.heap.size) (.slice A1 n c1) bs ∧ Below w.heap.size w w' := by
  obtain ⟨i0, hi, hz0, hz1, hz2⟩ := info_three info_byte
  have hn := h.len_
  have HN := Lib.hid (And.intro hn hb)
  rcases A with _ | a
  · have hb0 : bs = [] := by
      obtain ⟨A', c', hv, _, _, h3⟩ := h
      rcases h3 with h3 | ⟨b, off, hA, _⟩
      · exact h3
      · injection hv with e1 _ _; rw [hA] at e1; cases e1
    subst hb0
    simp at hn
    subst hn
    have hq := fun (w : World) (n' c' : Nat) => Lib.run_eql_slice_nil (P := Tryd.prog) w 39 5 none 0 c n' c' Tryd.underlying39
    clear h hi hz0 hz1 hz2
    go_enter Tryd.func52, Tryd.ntmps52
    go_wp2
    go_ret
    exact ⟨none, 0, rfl, SlT.nil_ _ _, Below.refl _ _⟩
  · have hq := fun (w : World) (n' c' : Nat) => Lib.run_eql_slice_nil (P := Tryd.prog) w 39 5 (some a) n c n' c' Tryd.underlying39
    have H := Lib.hid h
    clear h hn
    go_enter Tryd.func52, Tryd.ntmps52
    go_wp2_with (at_builtin; go_must (refine wpList_joinB (xs := []) (B := w.heap.size) (World.ownsRow_made w #[] 0 (Nat.le_refl _) (by simp [maxLen]) rfl) rfl _ _ rfl rfl (some a) n c rfl bs (H.out.below (below_alloc w _)) ?c1 ?c2 ?c3))
    case c1 => have := HN.out.2; simp; omega
    case c2 => rw [World.size_alloc]; omega
    case c3 =>
      intro v' w2 ho hg
      try rw [List.nil_append] at ho
      have hb2 := ((Below.refl w.heap.size w).alloc (Nat.le_refl _) (.cells #[] 5)).grown hg (by rw [World.size_alloc]; omega) (fun k hk => by injection hk with hk; rw [← hk]; exact Nat.le_refl _)
      have hI : SlT w2 (fun q => w.heap.size ≤ q ∧ q < w2.heap.size) v' bs := SlT.of_own ho _ fun q hq => ho.lt q hq
      obtain ⟨Ax, cx, hv, -, -⟩ := (Bys.of_own ho).form
      rw [← HN.out.1] at hv
      subst hv
      have HF := Lib.hid (And.intro hI hb2)
      clear ho hg hb2 hI
      go_wp2_with fail
      go_ret
      exact ⟨Ax, cx, rfl, HF.out.1, HF.out.2⟩

theorem set3_own {w : World} {g : Nat} {v0 v1 v2 v3 v : Value} {t : Nat} (h : w.heap[g]? = some (.cells #[v0, v1, v2, v3] t (0, 0))) : (w.setCell ⟨g, 3, none⟩ v).heap[g]? = some (.cells #[v0, v1, v2, v] t (0, 0)) := by
  simp [World.setCell, Array.getElem?_modify, h]
theorem set2_own {w : World} {g : Nat} {v0 v1 v2 v : Value} {t : Nat} (h : w.heap[g]? = some (.cells #[v0, v1, v2] t (0, 0))) : (w.setCell ⟨g, 2, none⟩ v).heap[g]? = some (.cells #[v0, v1, v] t (0, 0)) := by
  simp [World.setCell, Array.getElem?_modify, h]
theorem put4_other (w : World) (b : Nat) (v0 v1 v2 v3 : Value) (k : Nat) (hk : k ≠ b) : (put4 w b v0 v1 v2 v3).heap[k]? = w.heap[k]? := by
  unfold put4; rw [Below.heap_setCell _ _ _ _ hk, Below.heap_setCell _ _ _ _ hk, Below.heap_setCell _ _ _ _ hk, Below.heap_setCell _ _ _ _ hk]
theorem put4_size (w : World) (b : Nat) (v0 v1 v2 v3 : Value) : (put4 w b v0 v1 v2 v3).heap.size = w.heap.size := by unfold put4; simp only [World.size_setCell]
theorem put3_other' (w : World) (b : Nat) (v0 v1 v2 : Value) (k : Nat) (hk : k ≠ b) : (put3 w b v0 v1 v2).heap[k]? = w.heap[k]? := by
  unfold put3; rw [Below.heap_setCell _ _ _ _ hk, Below.heap_setCell _ _ _ _ hk, Below.heap_setCell _ _ _ _ hk]
theorem put3_size' (w : World) (b : Nat) (v0 v1 v2 : Value) : (put3 w b v0 v1 v2).heap.size = w.heap.size := by unfold put3; simp only [World.size_setCell]

set_option maxHeartbeats 4000000 in
theorem copied_g (e : En) (A : Option Addr) (n c : Nat) (w : World) (h : Bys w (.slice A n c) e.data) (hs : n ≤ 1000000000) :
    Calls Tryd.prog 34 #[.agg #[.int .i64 e.index, .int .i64 e.term, .int .i64 e.kind, .slice A n c]] w fun y w' => ∃ A1 c1, y = .returned (.agg #[.int .i64 e.index, .int .i64 e.term, .int .i64 e.kind, .slice A1 n c1]) ∧ SlT w' (fun q => w.heap.size ≤ q ∧ q < w'.heap.size) (.slice A1 n c1) e.data ∧ Below w.heap.size w w' := by
  obtain ⟨W1, g, g2, hW1, hg, hg2, hb1, hq, hq2, hsz⟩ := two_box w (.cells #[.int .i64 e.index, .int .i64 e.term, .int .i64 e.kind, .slice A n c] 41) (.cells #[.int .i64 0, .int .i64 0, .int .i64 0, .slice none 0 0] 41)
  have HW := Lib.hid (And.intro hW1 (And.intro hg hg2))
  have HE := Lib.hid (And.intro hb1 (And.intro hq (And.intro hq2 (And.intro (show w.heap.size = g by omega) (And.intro (show g2 = g + 1 by omega) hsz)))))
  have HC := Lib.hid (BClone_any W1 A n c e.data (h.below hb1) hs)
  have HCL := Lib.hid (show ∀ W, Below W1.heap.size W1 W → W.heap[g]? = some (.cells #[.int .i64 e.index, .int .i64 e.term, .int .i64 e.kind, .slice A n c] 41 (0, 0)) ∧ W.heap[g2]? = some (.cells #[.int .i64 0, .int .i64 0, .int .i64 0, .slice none 0 0] 41 (0, 0)) from fun W hW => ⟨(hW.block g (obj_lt hq)).trans hq, (hW.block g2 (obj_lt hq2)).trans hq2⟩)
  obtain ⟨x0, x1, x2, x3⟩ := cells4 hq
  have hres : Tryd.f34.results = #[.cell 2 41] := by kernel_rfl
  clear h hs hW1 hb1 hq hq2 hg hg2 hsz
  go_enter Tryd.func34, Tryd.ntmps34
  go_upto_region 1 with fail
  rw [← HW.out.1, ← HW.out.2.1, ← HW.out.2.2]
  go_upto_region 2 with (go_at_call 52; go_must (refine HC.out.mono ?_; rintro y w1 ⟨A1, c1, rfl, hd1, hb1⟩; obtain ⟨hq, hq2⟩ := HCL.out w1 hb1; have f3 := frozen_own hq 3; obtain ⟨x0, x1, x2, x3⟩ := cells4 hq; have HB1 := Lib.hid (And.intro hd1 (And.intro hb1 (And.intro hq hq2))); clear hd1 hb1 hq hq2))
  clear x0 x1 x2 x3 f3
  obtain ⟨W2, hW2⟩ : ∃ W, W = w1.setCell ⟨g, 3, none⟩ (.slice A1 n c1) := ⟨_, rfl⟩
  have hq := set3_own (v := .slice A1 n c1) HB1.out.2.2.1
  have hq2 : (w1.setCell ⟨g, 3, none⟩ (.slice A1 n c1)).heap[g2]? = _ := (Below.heap_setCell w1 ⟨g, 3, none⟩ _ g2 (by have := HE.out.2.2.2.2.1; simp only; omega)).trans HB1.out.2.2.2
  rw [← hW2] at hq hq2 ⊢
  obtain ⟨x0, x1, x2, x3⟩ := cells4 hq
  obtain ⟨y0, y1, y2, y3⟩ := cells4 hq2
  have f0 := frozen_own hq2 0
  have f1 := frozen_own hq2 1
  have f2 := frozen_own hq2 2
  have f3 := frozen_own hq2 3
  have H2 := Lib.hid (And.intro hW2 hq2)
  clear hW2 hq hq2
  go_wp2_with fail
  obtain ⟨WF, hWF⟩ : ∃ W, W = put4 W2 g2 (.int .i64 e.index) (.int .i64 e.term) (.int .i64 e.kind) (.slice A1 n c1) := ⟨_, rfl⟩
  have hb2 : Below g w W2 := by rw [H2.out.1]; exact ((HE.out.1.mono (by rw [HE.out.2.2.2.1]; exact Nat.le_refl _)).trans (HB1.out.2.1.mono (by have := HE.out.2.2.2.2; omega))).setCell (show g ≤ g from Nat.le_refl g) _
  have hbF := put4_below (b := g2) (v0 := .int .i64 e.index) (v1 := .int .i64 e.term) (v2 := .int .i64 e.kind) (v3 := .slice A1 n c1) hb2 (show g ≤ g2 by have := HE.out.2.2.2.2.1; omega)
  obtain ⟨z0, z1, z2, z3⟩ := cells4 (put4_own H2.out.2 (.int .i64 e.index) (.int .i64 e.term) (.int .i64 e.kind) (.slice A1 n c1))
  have hoth : ∀ k, g2 < k → (put4 W2 g2 (.int .i64 e.index) (.int .i64 e.term) (.int .i64 e.kind) (.slice A1 n c1)).heap[k]? = w1.heap[k]? := fun k hk => by
    rw [put4_other _ _ _ _ _ _ _ (by omega), H2.out.1, Below.heap_setCell _ _ _ _ (by have := HE.out.2.2.2.2.1; simp only; omega)]
  have hsz2 : (put4 W2 g2 (.int .i64 e.index) (.int .i64 e.term) (.int .i64 e.kind) (.slice A1 n c1)).heap.size = w1.heap.size := by
    rw [put4_size, H2.out.1, World.size_setCell]
  rw [← hWF] at hbF z0 z1 z2 z3 hoth hsz2
  unfold put4 at hWF
  rw [← hWF]
  have HF := Lib.hid (And.intro hbF (And.intro hoth hsz2))
  clear hbF hoth hsz2 hWF x0 x1 x2 x3 y0 y1 y2 y3 f0 f1 f2 f3 hb2
  have hgw := HE.out.2.2.2.1
  refine bodyPost_ret (v := .agg #[.int .i64 e.index, .int .i64 e.term, .int .i64 e.kind, .slice A1 n c1]) ?_ rfl ⟨A1, c1, rfl, ?_, by rw [hgw]; exact HF.out.1⟩
  · simp only [results, hres]
    go_simp
  · refine (SlT.kept HB1.out.1 fun k hk _ => HF.out.2.1 k ?_).mono fun k hk => ⟨Nat.le_trans HE.out.1.size hk.1, by rw [HF.out.2.2]; exact hk.2⟩
    have := hk.1; have := HE.out.2.2.2.2; omega

theorem EntsT.at_ {w : World} {T : Nat → Prop} {A : Option Addr} {m c : Nat} {l : List En} (h : EntsT w T (.slice A m c) l) (i : Nat) (hi : i < l.length) :
    ∃ b off Ad cd, A = some ⟨b, off, none⟩ ∧ T b ∧ w.cell? ⟨b, off + i * 4, none⟩ = some (.int .i64 l[i].index) ∧ w.cell? ⟨b, off + i * 4 + 1, none⟩ = some (.int .i64 l[i].term) ∧
      w.cell? ⟨b, off + i * 4 + 2, none⟩ = some (.int .i64 l[i].kind) ∧ w.cell? ⟨b, off + i * 4 + 3, none⟩ = some (.slice Ad l[i].data.length cd) ∧ SlT w T (.slice Ad l[i].data.length cd) l[i].data := by
  obtain ⟨cs, hr, he⟩ := h
  obtain ⟨-, -, -, b, off, rfl, hb, hc⟩ := hr.at_ (by omega)
  obtain ⟨h0, h1, h2, u, hu, hs⟩ := he i hi
  have hs' := hs
  obtain ⟨Ad, cd, rfl, _⟩ := hs
  exact ⟨b, off, Ad, cd, rfl, hb, hc _ _ h0, hc _ _ h1, hc _ _ h2, hc _ _ hu, hs'⟩
theorem EntsT.len_ {w : World} {T : Nat → Prop} {A : Option Addr} {n c : Nat} {l : List En} (h : EntsT w T (.slice A n c) l) : n = l.length ∧ n ≤ c ∧ c ≤ 9223372036854775807 := by
  obtain ⟨cs, h, _⟩ := h
  obtain ⟨A', c', hv, h1, h2⟩ := h.form
  injection hv with e1 e2 e3
  subst e2; subst e3
  exact ⟨rfl, h1, h2⟩

set_option maxHeartbeats 8000000 in
/-- Copies of entries laid behind a row of one's own. -/
theorem behind_g (B : Nat) (v0 : Value) (l0 : List En) (A : Option Addr) (n c : Nat) (l : List En) (w : World) (hB : B ≤ w.heap.size) (h0 : OwnE w B (fun k => B ≤ k) 41 v0 l0) (h : EntsT w (fun k => k < B) (.slice A n c) l) (hs : SmallE 1000000 100000000 l) (hs0 : l0.length ≤ 1000000) :
    Calls Tryd.prog 50 #[v0, .slice A n c] w fun y w' => ∃ v, y = .returned v ∧ OwnE w' B (fun k => B ≤ k) 41 v (l0 ++ l) ∧ Below B w w' := by
  obtain ⟨hn, hnc, hcm⟩ := h.len_
  have in1 : (n : Int) ≤ 9223372036854775807 := by omega
  have HH := Lib.hid (And.intro h (And.intro hn (And.intro hs hB)))
  have H0 := Lib.hid (And.intro h0 hs0)
  obtain ⟨A0, c0, rfl, -, -⟩ := h0.form rfl
  clear h hnc hcm hs hn hB h0 hs0
  go_enter Tryd.func50, Tryd.ntmps50
  go_wp2_with fail
  go_loopw [0, 9] (fun v ii wr => ∃ (j : Nat), j ≤ n ∧ ii = .int .i64 (j : Int) ∧ OwnE wr B (fun k => B ≤ k) 41 v (l0 ++ l.take j) ∧ Below B w wr) (fun _ ii _ => n - (intOf ii).toNat)
  case atStart => exact ⟨0, Nat.zero_le _, rfl, by rw [List.take_zero, List.append_nil]; exact H0.out.1, Below.refl _ _⟩
  case round =>
    obtain ⟨j, hj, rfl, how, hbw⟩ := hrel
    have hjl : (l0 ++ l.take j).length = l0.length + j := by rw [List.length_append, List.length_take]; have := HH.out.2.1; omega
    obtain ⟨Av, cv, rfl, -, -⟩ := how.form hjl
    have HO := Lib.hid (And.intro how (And.intro hbw hjl))
    clear how hjl
    by_cases hlt : j < n
    · have ii : (j : Int) < (n : Int) := by omega
      have hkl : j < l.length := by have := HH.out.2.1; omega
      have hen := HH.out.1.move (w' := wr) (T' := fun k => k < B) (fun k hk _ => hbw.block k hk) fun _ hk => hk
      obtain ⟨bk, off, Ad, cd, rfl, hbb, y0, y1, y2, y3, hdat⟩ := hen.at_ j hkl
      have hxe : l0 ++ l.take (j + 1) = l0 ++ (l.take j ++ [l[j]]) := by rw [List.take_succ_eq_append_getElem hkl]
      have hsm := HH.out.2.2.1.2 _ (List.getElem_mem hkl)
      obtain ⟨e, he⟩ : ∃ e, e = l[j] := ⟨_, rfl⟩
      rw [← he] at y0 y1 y2 y3 hdat hxe hsm
      obtain ⟨m, hm⟩ : ∃ m, m = e.data.length := ⟨_, rfl⟩
      rw [← hm] at y3 hdat hsm
      have hB2 : B ≤ wr.heap.size := Nat.le_trans HH.out.2.2.2 hbw.size
      have hbx := below_alloc wr (.cells #[.int .i64 e.index, .int .i64 e.term, .int .i64 e.kind, .slice Ad m cd] 41)
      obtain ⟨WB, hWB⟩ : ∃ W, W = wr.alloc (.cells #[.int .i64 e.index, .int .i64 e.term, .int .i64 e.kind, .slice Ad m cd] 41) := ⟨_, rfl⟩
      have HG := Lib.hid (copied_g e Ad m cd (wr.alloc (.cells #[.int .i64 e.index, .int .i64 e.term, .int .i64 e.kind, .slice Ad m cd] 41)) (Bys.below (show Bys wr (.slice Ad m cd) e.data from hdat.mono fun k hk => Nat.lt_of_lt_of_le hk hB2) hbx) (by omega))
      have HX := Lib.hid (And.intro hxe (And.intro hm (And.intro hsm (And.intro hB2 hbx))))
      clear hdat hxe hsm he hm hbb hkl hbw hen hB2 hbx hWB
      go_wp2_with (first
        | (go_at_call 34; go_must (refine HG.out.mono ?_; rintro y w1 ⟨A1, c1, rfl, hd1, hb1⟩; have HB1 := Lib.hid (And.intro hd1 (HX.out.2.2.2.2.trans (hb1.mono HX.out.2.2.2.2.size))); clear hd1 hb1))
        | (at_builtin; go_must (refine wpList_pushE (B := B) (Q := fun k => B ≤ k) (t := 41) (l := l0 ++ l.take j) ((HO.out.1.more HB1.out.2).more (below_alloc w1 _)) rfl _ _ 27 Tryd.underlying27 info_ent rfl rfl w1.heap.size e A1 c1 rfl ?c0 ?c1 ?c2 ?c3 ?c4)))
      case c0 => rw [← HX.out.2.1]; exact heap_alloc_new w1 _
      case c1 =>
        rw [← HX.out.2.1]
        refine (SlT.kept HB1.out.1 fun k hk _ => heap_alloc_old _ _ hk.2).mono fun k hk => ⟨?_, by rw [World.size_alloc]; have := hk.2; omega, fun e => ?_⟩
        · have h1 := hk.1; rw [World.size_alloc] at h1; have := HX.out.2.2.2.1; omega
        · have h1 := (HO.out.1.lt k e).2
          have h2 := hk.1
          rw [World.size_alloc] at h2
          omega
      case c2 => have h1 := HO.out.2.2; have h2 := HH.out.2.2.1.1; have h3 := HH.out.2.1; have h4 := H0.out.2; omega
      case c3 => have h1 := HX.out.2.2.2.1; have h2 := HB1.out.2.size; simp only [World.size_alloc]; omega
      case c4 =>
        intro v' w' ho' hg' _
        have hb2 : Below B w w1 := HO.out.2.1.trans (HB1.out.2.mono HX.out.2.2.2.1)
        have hB3 : B ≤ w1.heap.size := Nat.le_trans HX.out.2.2.2.1 HB1.out.2.size
        have hb3 : Below B w w' := (hb2.alloc hB3 _).grown hg' (by simp only [World.size_alloc]; omega) fun k hk => (HO.out.1.lt k hk).1
        rw [← HX.out.1] at ho'
        have HF := Lib.hid (And.intro ho' hb3)
        clear ho' hg' hb3 hb2 hB3
        go_wp2_with fail
        go_roundw
        case rel => exact ⟨j + 1, by omega, by go_num, HF.out.1, HF.out.2⟩
        case measure => simp [intOf]; omega
    · obtain rfl : j = n := by omega
      have ii : ¬ (j : Int) < (j : Int) := by omega
      go_wp2_with fail
      go_ret
      refine ⟨_, rfl, ?_, HO.out.2.1⟩
      have h1 := HO.out.1
      rw [List.take_of_length_le (by have := HH.out.2.1; omega)] at h1
      exact h1

end Go.Proofs.YtlngcfaadfkbnaaDoor.pk
