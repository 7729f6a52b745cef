/-
  The document's disk: all made safe.
-/
import Derived.Test.YtlhagbcomnjnoaaDoorRefPut
namespace Go.Proofs.YtlhagbcomnjnoaaDoor.pk
open Go Go.RowKit
set_option maxRecDepth 100000

/-- Four cells of a block of the call's own, written one behind the other. -/
theorem set4_cell {w : World} {b : Nat} {u0 u1 u2 u3 : Value} (v0 v1 v2 v3 : Value) (h0 : w.cell? ⟨b, 0, none⟩ = some u0) (h1 : w.cell? ⟨b, 1, none⟩ = some u1) (h2 : w.cell? ⟨b, 2, none⟩ = some u2) (h3 : w.cell? ⟨b, 3, none⟩ = some u3) :
    ∀ j v, (#[v0, v1, v2, v3] : Array Value)[j]? = some v → ((((w.setCell ⟨b, 0, none⟩ v0).setCell ⟨b, 1, none⟩ v1).setCell ⟨b, 2, none⟩ v2).setCell ⟨b, 3, none⟩ v3).cell? ⟨b, j, none⟩ = some v := by
  intro j v hj
  match j, hj with
  | 0, hj =>
    rw [World.cell?_setCell_other _ _ _ _ (by simp), World.cell?_setCell_other _ _ _ _ (by simp), World.cell?_setCell_other _ _ _ _ (by simp), World.cell?_setCell_same' _ _ _ (by rw [h0]; rfl)]
    exact hj
  | 1, hj =>
    rw [World.cell?_setCell_other _ _ _ _ (by simp), World.cell?_setCell_other _ _ _ _ (by simp), World.cell?_setCell_same' _ _ _ (by rw [World.cell?_setCell_other _ _ _ _ (by simp), h1]; rfl)]
    exact hj
  | 2, hj =>
    rw [World.cell?_setCell_other _ _ _ _ (by simp), World.cell?_setCell_same' _ _ _ (by rw [World.cell?_setCell_other _ _ _ _ (by simp), World.cell?_setCell_other _ _ _ _ (by simp), h2]; rfl)]
    exact hj
  | 3, hj =>
    rw [World.cell?_setCell_same' _ _ _ (by rw [World.cell?_setCell_other _ _ _ _ (by simp), World.cell?_setCell_other _ _ _ _ (by simp), World.cell?_setCell_other _ _ _ _ (by simp), h3]; rfl)]
    exact hj
theorem set4_below {w W : World} {B b : Nat} (h : Below B w W) (hb : B ≤ b) (v0 v1 v2 v3 : Value) : Below B w ((((W.setCell ⟨b, 0, none⟩ v0).setCell ⟨b, 1, none⟩ v1).setCell ⟨b, 2, none⟩ v2).setCell ⟨b, 3, none⟩ v3) :=
  ((((h.setCell hb _).setCell hb _).setCell hb _).setCell hb _)
theorem set4_block (w : World) (b : Nat) (v0 v1 v2 v3 : Value) (k : Nat) (hk : k ≠ b) : ((((w.setCell ⟨b, 0, none⟩ v0).setCell ⟨b, 1, none⟩ v1).setCell ⟨b, 2, none⟩ v2).setCell ⟨b, 3, none⟩ v3).heap[k]? = w.heap[k]? := by
  rw [Below.heap_setCell _ _ _ _ hk, Below.heap_setCell _ _ _ _ hk, Below.heap_setCell _ _ _ _ hk, Below.heap_setCell _ _ _ _ hk]

/-- Another disk of the same bytes and writes. -/
theorem RD.alike {w W : World} {T : Nat → Prop} {vB vL : Value} {d D : Dk} (h : RD w T vB vL d) (hb : Below w.heap.size w W) (hL : D.L = d.L) (hB : D.B = d.B) (hk : D.Ok) (ha : inJ D.armed) : RD W T vB vL D := by
  have h0 := h.below hb
  exact ⟨by rw [hB]; exact h0.b, by rw [hL]; exact h0.l, hk, by rw [hB]; exact h0.one, by rw [hB]; exact h0.big, by rw [hL]; exact h0.few, ha⟩
/-- A call's own two blocks: what was handed in, and what is answered. -/
theorem two_blocks (w : World) (t : Nat) (bs : Array Value) (rs : Array Value) :
    ∃ W1 W2, W1 = w.alloc (.cells bs t) ∧ W2 = W1.alloc (.cells rs t) ∧ Below w.heap.size w W2 ∧ W2.heap.size = w.heap.size + 2 ∧
      (∀ j v, bs[j]? = some v → ∀ W, Below W2.heap.size W2 W → W.cell? ⟨w.heap.size, j, none⟩ = some v ∧ W.frozen? ⟨w.heap.size, j, none⟩ = false) ∧
      (∀ j v, rs[j]? = some v → ∀ W, Below W2.heap.size W2 W → W.cell? ⟨w.heap.size + 1, j, none⟩ = some v ∧ W.frozen? ⟨w.heap.size + 1, j, none⟩ = false) := by
  refine ⟨w.alloc (.cells bs t), (w.alloc (.cells bs t)).alloc (.cells rs t), rfl, rfl, ((Below.refl _ _).alloc (Nat.le_refl _) _).alloc (by rw [World.size_alloc]; omega) _, by rw [World.size_alloc, World.size_alloc], ?_, ?_⟩
  · intro j v hj W hW
    have hs : ((w.alloc (.cells bs t)).alloc (.cells rs t)).heap.size = w.heap.size + 2 := by rw [World.size_alloc, World.size_alloc]
    have hb : Below (w.alloc (.cells bs t)).heap.size (w.alloc (.cells bs t)) ((w.alloc (.cells bs t)).alloc (.cells rs t)) := (Below.refl _ _).alloc (Nat.le_refl _) _
    have hs1 : (w.alloc (.cells bs t)).heap.size = w.heap.size + 1 := by rw [World.size_alloc]
    rw [hW.cell (p := ⟨w.heap.size, j, none⟩) (by show w.heap.size < _; omega), hW.frozen (p := ⟨w.heap.size, j, none⟩) (by show w.heap.size < _; omega), hb.cell (p := ⟨w.heap.size, j, none⟩) (by show w.heap.size < _; omega), hb.frozen (p := ⟨w.heap.size, j, none⟩) (by show w.heap.size < _; omega), cell_of_row _ w.heap.size _ _ _ (0, 0) (heap_alloc_new w _)]
    exact ⟨hj, frozen_of_row _ w.heap.size j _ _ (heap_alloc_new w _)⟩
  · intro j v hj W hW
    have hs : ((w.alloc (.cells bs t)).alloc (.cells rs t)).heap.size = w.heap.size + 2 := by rw [World.size_alloc, World.size_alloc]
    have hs1 : (w.alloc (.cells bs t)).heap.size = w.heap.size + 1 := by rw [World.size_alloc]
    rw [hW.cell (p := ⟨w.heap.size + 1, j, none⟩) (by show w.heap.size + 1 < _; omega), hW.frozen (p := ⟨w.heap.size + 1, j, none⟩) (by show w.heap.size + 1 < _; omega), ← hs1, cell_of_row _ _ _ _ _ (0, 0) (heap_alloc_new (w.alloc (.cells bs t)) _)]
    exact ⟨hj, frozen_of_row _ _ j _ _ (heap_alloc_new (w.alloc (.cells bs t)) _)⟩

set_option maxHeartbeats 2000000 in
theorem RefSync_any (vB vL : Value) (d : Dk) (w : World) (T : Nat → Prop) (h : RD w T vB vL d) :
    Calls Tryd.prog 28 #[rdv vB vL d] w fun r w' => ∃ vB' vL', r = .returned (.tuple #[rdv vB' vL' (syncD d), .int .i64 (syncE d : Int)]) ∧ RD w' (Tn T w w') vB' vL' (syncD d) ∧ Below w.heap.size w w' := by
  have hres : Tryd.f28.results = #[.cell 2 41, .tmp 3] := by kernel_rfl
  obtain ⟨nB, hnB⟩ : ∃ nB, nB = d.B.length := ⟨_, rfl⟩
  obtain ⟨nL, hnL⟩ : ∃ nL, nL = d.L.length := ⟨_, rfl⟩
  obtain ⟨AB, cB, rfl, hB1, hB2, hsB⟩ := h.b.named hnB
  obtain ⟨AL, cL, hvL, hL1, hL2⟩ := h.l.form
  rw [← hnL] at hvL hL1
  subst hvL
  have HW0 := Lib.hid h
  have HARM := Lib.hid h.arm
  obtain ⟨W1, W2, hW1, hW2, hb2, hs2, hbx, hrx⟩ := two_blocks w 41 #[.slice AB nB cB, .slice AL nL cL, .int .i64 d.armed, .bool d.off] #[.slice none 0 0, .slice none 0 0, .int .i64 0, .bool false]
  have HB1 := Lib.hid hb2
  have HC := Lib.hid (And.intro hbx hrx)
  have HS1 := Lib.hid hs2
  unfold rdv
  have hst := RefStep_any AB AL nB cB nL cL d W2 HARM.out
  obtain ⟨q0, _⟩ := hbx 0 _ rfl W2 (Below.refl _ _)
  obtain ⟨q1, _⟩ := hbx 1 _ rfl W2 (Below.refl _ _)
  obtain ⟨q2, _⟩ := hbx 2 _ rfl W2 (Below.refl _ _)
  obtain ⟨q3, _⟩ := hbx 3 _ rfl W2 (Below.refl _ _)
  clear h hnB hnL hB1 hB2 hsB hL1 hL2 hbx hrx hs2 hb2
  by_cases ho : d.off = true
  · obtain ⟨r0, f0⟩ := HC.out.2 0 _ rfl W2 (Below.refl _ _)
    obtain ⟨r1, f1⟩ := HC.out.2 1 _ rfl W2 (Below.refl _ _)
    obtain ⟨r2, f2⟩ := HC.out.2 2 _ rfl W2 (Below.refl _ _)
    obtain ⟨r3, f3⟩ := HC.out.2 3 _ rfl W2 (Below.refl _ _)
    have hd : syncD d = d := by unfold syncD; rw [if_pos ho]
    have he : syncE d = 13 := by unfold syncE; rw [if_pos ho]
    have HD := Lib.hid (And.intro hd (And.intro he ho))
    rw [ho] at q3 hW1
    rw [ho]
    clear hd he ho hst
    go_enter Tryd.func28, Tryd.ntmps28
    go_upto_region 1 with fail
    rw [← hW1, ← hW2]
    clear hW1 hW2
    go_wp2_with fail
    have hbF := set4_below HB1.out (Nat.le_succ w.heap.size) (.slice AB nB cB) (.slice AL nL cL) (.int .i64 d.armed) (.bool true)
    have HBF := Lib.hid hbF
    clear hbF
    refine bodyPost_ret (v := .tuple #[.agg #[.slice AB nB cB, .slice AL nL cL, .int .i64 d.armed, .bool true], .int .i64 13]) ?_ rfl ⟨.slice AB nB cB, .slice AL nL cL, by rw [HD.out.1, HD.out.2.1, HD.out.2.2]; rfl, ?_, ?_⟩
    · simp only [results, hres]
      go_simp
    · rw [HD.out.1]; exact (HW0.out.below HBF.out).mono fun k hk => Or.inl hk
    · exact HBF.out
  · have hoF : d.off = false := by cases hx : d.off with | false => rfl | true => exact absurd hx ho
    have hd : syncD d = if stepE d = 0 then { stepD d with B := d.now, L := [] } else stepD d := by unfold syncD; rw [if_neg ho]
    have he : syncE d = stepE d := by unfold syncE; rw [if_neg ho]
    have hst' : Calls Tryd.prog 39 #[.agg #[.slice AB nB cB, .slice AL nL cL, .int .i64 d.armed, .bool d.off]] W2 fun x w' => x = .returned (.tuple #[.agg #[.slice AB nB cB, .slice AL nL cL, .int .i64 (stepD d).armed, .bool (stepD d).off], .int .i64 (stepE d : Int)]) ∧ Below W2.heap.size W2 w' := hst
    obtain ⟨D, hD⟩ : ∃ D, D = stepD d := ⟨_, rfl⟩
    have hDL := stepD_L d
    have hDok := stepD_ok HW0.out.ok
    have hDa := stepD_arm HARM.out
    rw [← hD] at hst' hd hDL hDok hDa
    have hse : stepE d = if d.armed = 0 then 13 else 0 := rfl
    rw [hoF] at hst' q3 hW1 ⊢
    have HST := Lib.hid hst'
    have HD := Lib.hid (And.intro hDL (And.intro hDok hDa))
    clear hoF ho hst hst' hDL hDok hDa hD
    by_cases hz : d.armed = 0
    · rw [if_pos hz] at hse
      rw [hse] at hd he HST
      rw [if_neg (by omega)] at hd
      have HE := Lib.hid (And.intro hd he)
      clear hd he hse hz
      go_enter Tryd.func28, Tryd.ntmps28
      go_upto_region 1 with fail
      rw [← hW1, ← hW2]
      clear hW1 hW2
      go_wp2_with (go_at_call 39; go_must (refine HST.out.mono ?_; rintro y w3 ⟨rfl, hb3⟩; obtain ⟨p0, g0⟩ := HC.out.1 0 _ rfl w3 hb3; obtain ⟨p1, g1⟩ := HC.out.1 1 _ rfl w3 hb3; obtain ⟨p2, g2⟩ := HC.out.1 2 _ rfl w3 hb3; obtain ⟨p3, g3⟩ := HC.out.1 3 _ rfl w3 hb3; obtain ⟨r0, f0⟩ := HC.out.2 0 _ rfl w3 hb3; obtain ⟨r1, f1⟩ := HC.out.2 1 _ rfl w3 hb3; obtain ⟨r2, f2⟩ := HC.out.2 2 _ rfl w3 hb3; obtain ⟨r3, f3⟩ := HC.out.2 3 _ rfl w3 hb3; have HB3 := Lib.hid hb3; clear hb3))
      have hbF := set4_below (set4_below (HB1.out.trans (HB3.out.mono HB1.out.size)) (Nat.le_refl w.heap.size) (.slice AB nB cB) (.slice AL nL cL) (.int .i64 D.armed) (.bool D.off)) (Nat.le_succ w.heap.size) (.slice AB nB cB) (.slice AL nL cL) (.int .i64 D.armed) (.bool D.off)
      have HBF := Lib.hid hbF
      clear hbF
      refine bodyPost_ret (v := .tuple #[.agg #[.slice AB nB cB, .slice AL nL cL, .int .i64 D.armed, .bool D.off], .int .i64 13]) ?_ rfl ⟨.slice AB nB cB, .slice AL nL cL, by rw [HE.out.1, HE.out.2]; rfl, ?_, ?_⟩
      · simp only [results, hres]
        go_simp
      · rw [HE.out.1]
        exact (HW0.out.alike HBF.out HD.out.1.1 HD.out.1.2 HD.out.2.1 HD.out.2.2).mono fun k hk => Or.inl hk
      · exact HBF.out
    · rw [if_neg hz] at hse
      rw [hse] at hd he HST
      rw [if_pos rfl] at hd
      rw [show ((0 : Nat) : Int) = 0 from rfl] at HST
      have HE := Lib.hid (And.intro hd he)
      clear hd he hse hz
      go_enter Tryd.func28, Tryd.ntmps28
      go_upto_region 1 with fail
      rw [← hW1, ← hW2]
      clear hW1 hW2
      go_upto_region 5 with (go_at_call 39; go_must (refine HST.out.mono ?_; rintro y w3 ⟨rfl, hb3⟩; obtain ⟨p0, g0⟩ := HC.out.1 0 _ rfl w3 hb3; obtain ⟨p1, g1⟩ := HC.out.1 1 _ rfl w3 hb3; obtain ⟨p2, g2⟩ := HC.out.1 2 _ rfl w3 hb3; obtain ⟨p3, g3⟩ := HC.out.1 3 _ rfl w3 hb3; have HB3 := Lib.hid hb3; clear hb3))
      obtain ⟨W4, hW4⟩ : ∃ W4, W4 = (((w3.setCell ⟨w.heap.size, 0, none⟩ (.slice AB nB cB)).setCell ⟨w.heap.size, 1, none⟩ (.slice AL nL cL)).setCell ⟨w.heap.size, 2, none⟩ (.int .i64 D.armed)).setCell ⟨w.heap.size, 3, none⟩ (.bool D.off) := ⟨_, rfl⟩
      rw [← hW4]
      have hb4 : Below w.heap.size w W4 := by rw [hW4]; exact set4_below (HB1.out.trans (HB3.out.mono HB1.out.size)) (Nat.le_refl _) _ _ _ _
      have hs4 : W4.heap.size = w3.heap.size := by rw [hW4]; simp [World.setCell]
      have hbx : ∀ j v, (#[.slice AB nB cB, .slice AL nL cL, .int .i64 D.armed, .bool D.off] : Array Value)[j]? = some v → ∀ W, Below W4.heap.size W4 W → W.cell? ⟨w.heap.size, j, none⟩ = some v ∧ W.frozen? ⟨w.heap.size, j, none⟩ = false := by
        intro j v hj W hW
        have hlt : w.heap.size < W4.heap.size := by have := HS1.out; have := HB3.out.size; omega
        rw [hW.cell (p := ⟨w.heap.size, j, none⟩) hlt, hW.frozen (p := ⟨w.heap.size, j, none⟩) hlt, hW4, World.frozen?_setCell, World.frozen?_setCell, World.frozen?_setCell, World.frozen?_setCell]
        refine ⟨set4_cell _ _ _ _ p0 p1 p2 p3 j v hj, ?_⟩
        match j, hj with
        | 0, _ => exact g0
        | 1, _ => exact g1
        | 2, _ => exact g2
        | 3, _ => exact g3
      have hrx : ∀ j v, (#[.slice none 0 0, .slice none 0 0, .int .i64 0, .bool false] : Array Value)[j]? = some v → ∀ W, Below W4.heap.size W4 W → W.cell? ⟨w.heap.size + 1, j, none⟩ = some v ∧ W.frozen? ⟨w.heap.size + 1, j, none⟩ = false := by
        intro j v hj W hW
        have hlt : w.heap.size + 1 < W4.heap.size := by have := HS1.out; have := HB3.out.size; omega
        have hbk := set4_block w3 w.heap.size (.slice AB nB cB) (.slice AL nL cL) (.int .i64 D.armed) (.bool D.off) (w.heap.size + 1) (by omega)
        rw [← hW4] at hbk
        rw [hW.cell (p := ⟨w.heap.size + 1, j, none⟩) hlt, hW.frozen (p := ⟨w.heap.size + 1, j, none⟩) hlt, World.cell?_of_block (w := w3) (a := ⟨w.heap.size + 1, j, none⟩) hbk, World.frozen?_of_block (w := w3) (a := ⟨w.heap.size + 1, j, none⟩) hbk]
        exact HC.out.2 j v hj w3 HB3.out
      have hnow := RefNow_any _ _ D W4 T (HW0.out.alike hb4 HD.out.1.1 HD.out.1.2 HD.out.2.1 HD.out.2.2)
      unfold rdv at hnow
      have hdn : D.now = d.now := by unfold Dk.now; rw [HD.out.1.1, HD.out.1.2]
      rw [hdn] at hnow
      have HNOW := Lib.hid hnow
      have HX := Lib.hid (And.intro hbx hrx)
      have HB4 := Lib.hid (And.intro hb4 hs4)
      clear p0 p1 p2 p3 g0 g1 g2 g3 q0 q1 q2 q3 hnow hdn hb4 hs4 hW4
      obtain ⟨q0, _⟩ := hbx 0 _ rfl W4 (Below.refl _ _)
      obtain ⟨q1, _⟩ := hbx 1 _ rfl W4 (Below.refl _ _)
      obtain ⟨q2, _⟩ := hbx 2 _ rfl W4 (Below.refl _ _)
      obtain ⟨q3, _⟩ := hbx 3 _ rfl W4 (Below.refl _ _)
      clear hbx hrx
      have hln := HW0.out.ok.now
      have hlb := HW0.out.one
      have hlg := HW0.out.big
      have HLN := Lib.hid (And.intro hln (And.intro hlb hlg))
      clear hln hlb hlg
      go_wp2_with (go_at_call 34; go_must (refine HNOW.out.mono ?_; rintro y w5 ⟨v5, rfl, hs5, hb5⟩; obtain ⟨A5, n5, c5, rfl⟩ := hs5.form; have HS5 := Lib.hid hs5; obtain ⟨p0, g0⟩ := HX.out.1 0 _ rfl w5 hb5; obtain ⟨p1, g1⟩ := HX.out.1 1 _ rfl w5 hb5; obtain ⟨p2, g2⟩ := HX.out.1 2 _ rfl w5 hb5; obtain ⟨p3, g3⟩ := HX.out.1 3 _ rfl w5 hb5; obtain ⟨r0, f0⟩ := HX.out.2 0 _ rfl w5 hb5; obtain ⟨r1, f1⟩ := HX.out.2 1 _ rfl w5 hb5; obtain ⟨r2, f2⟩ := HX.out.2 2 _ rfl w5 hb5; obtain ⟨r3, f3⟩ := HX.out.2 3 _ rfl w5 hb5; have HB5 := Lib.hid hb5; clear hb5 hs5))
      have hbF := set4_below (((HB4.out.1.trans (HB5.out.mono HB4.out.1.size)).setCell (p := ⟨w.heap.size, 0, none⟩) (Nat.le_refl w.heap.size) (.slice A5 n5 c5)).setCell (p := ⟨w.heap.size, 1, none⟩) (Nat.le_refl w.heap.size) (.slice none 0 0)) (Nat.le_succ w.heap.size) (.slice A5 n5 c5) (.slice none 0 0) (.int .i64 D.armed) (.bool D.off)
      have HBF := Lib.hid hbF
      clear hbF
      refine bodyPost_ret (v := .tuple #[.agg #[.slice A5 n5 c5, .slice none 0 0, .int .i64 D.armed, .bool D.off], .int .i64 0]) ?_ rfl ⟨.slice A5 n5 c5, .slice none 0 0, by rw [HE.out.1, HE.out.2]; rfl, ?_, HBF.out⟩
      · simp only [results, hres]
        go_simp
      · rw [HE.out.1]
        refine ⟨(HS5.out.kept fun k hk hlt => ?_).mono fun k hk => Or.inr ⟨?_, ?_⟩, WrsT.nil_ _ _, (by intro u hu; cases hu), ?_, ?_, by show 0 < 100000; omega, HD.out.2.2⟩
        · have h1 := HS1.out
          have h2 := HB3.out.size
          have h3 := HB4.out.2
          have h4 := hk.1
          rw [set4_block _ _ _ _ _ _ k (by omega), Below.heap_setCell _ _ _ _ (by show k ≠ w.heap.size; omega), Below.heap_setCell _ _ _ _ (by show k ≠ w.heap.size; omega)]
        · have := HB4.out.1.size; have := hk.1; omega
        · have := hk.2; simpa [World.setCell] using this
        · show 1 ≤ d.now.length; have := HLN.out.1; have := HLN.out.2.1; omega
        · show d.now.length ≤ 4194304; have := HLN.out.1; have := HLN.out.2.2; omega

end Go.Proofs.YtlhagbcomnjnoaaDoor.pk
