/-
  The document's disk: a step, what is armed, what is read, a new one, a remainder.
-/
import Derived.Test.YtlhagbcomnjnoaaDoorRefNow
namespace Go.Proofs.YtlhagbcomnjnoaaDoor.pk
open Go Go.RowKit
set_option maxRecDepth 100000

set_option maxHeartbeats 1000000 in
theorem RefStep_any (AB AL : Option Addr) (nB cB nL cL : Nat) (d : Dk) (w : World) (ha : inJ d.armed) :
    Calls Tryd.prog 39 #[rdv (.slice AB nB cB) (.slice AL nL cL) d] w fun x w' => x = .returned (.tuple #[rdv (.slice AB nB cB) (.slice AL nL cL) (stepD d), .int .i64 (stepE d : Int)]) ∧ Below w.heap.size w w' := by
  obtain ⟨h1, h2⟩ := ha
  have hres : Tryd.f39.results = #[.cell 2 41, .tmp 3] := by kernel_rfl
  unfold rdv stepD stepE
  obtain ⟨r, hr⟩ : ∃ r, r = d.armed := ⟨_, rfl⟩
  obtain ⟨o, ho⟩ : ∃ o, o = d.off := ⟨_, rfl⟩
  by_cases hz : d.armed = 0
  · rw [if_pos hz, if_pos hz]
    show Calls Tryd.prog 39 #[.agg #[.slice AB nB cB, .slice AL nL cL, .int .i64 d.armed, .bool d.off]] w fun x w' => x = .returned (.tuple #[.agg #[.slice AB nB cB, .slice AL nL cL, .int .i64 (-1), .bool true], .int .i64 ((13 : Nat) : Int)]) ∧ _
    rw [hz, ← ho]
    clear h1 h2 hr ho hz
    go_enter Tryd.func39, Tryd.ntmps39
    go_wp2
    refine bodyPost_ret (v := .tuple #[.agg #[.slice AB nB cB, .slice AL nL cL, .int .i64 (-1), .bool true], .int .i64 13]) ?_ rfl ⟨rfl, ((Below.refl _ _).alloc (Nat.le_refl _) _).alloc (by simp) _⟩
    simp only [results, hres]
    go_simp
  · rw [if_neg hz, if_neg hz]
    by_cases hp : 0 < d.armed
    · rw [if_pos hp]
      show Calls Tryd.prog 39 #[.agg #[.slice AB nB cB, .slice AL nL cL, .int .i64 d.armed, .bool d.off]] w fun x w' => x = .returned (.tuple #[.agg #[.slice AB nB cB, .slice AL nL cL, .int .i64 (d.armed - 1), .bool d.off], .int .i64 ((0 : Nat) : Int)]) ∧ _
      rw [← hr] at hz hp h1 h2 ⊢
      rw [← ho]
      have hzB : (r == 0) = false := by rw [beq_eq_false_iff_ne]; exact hz
      have hw1 : IntKind.i64.wrap (r - 1) = r - 1 := IntWalk.i64_in _ (by omega)
      clear hr ho
      go_enter Tryd.func39, Tryd.ntmps39
      go_wp2
      refine bodyPost_ret (v := .tuple #[.agg #[.slice AB nB cB, .slice AL nL cL, .int .i64 (r - 1), .bool o], .int .i64 0]) ?_ rfl ⟨rfl, ((Below.refl _ _).alloc (Nat.le_refl _) _).alloc (by simp) _⟩
      simp only [results, hres]
      go_simp
    · rw [if_neg hp]
      rw [← hr] at hz hp h1 h2 ⊢
      rw [← ho]
      have hzB : (r == 0) = false := by rw [beq_eq_false_iff_ne]; exact hz
      clear hr ho
      go_enter Tryd.func39, Tryd.ntmps39
      go_wp2
      refine bodyPost_ret (v := .tuple #[.agg #[.slice AB nB cB, .slice AL nL cL, .int .i64 r, .bool o], .int .i64 0]) ?_ rfl ⟨rfl, ((Below.refl _ _).alloc (Nat.le_refl _) _).alloc (by simp) _⟩
      simp only [results, hres]
      go_simp

theorem RefArm_any (AB AL : Option Addr) (nB cB nL cL : Nat) (d : Dk) (n : Int) (w : World) :
    Calls Tryd.prog 29 #[rdv (.slice AB nB cB) (.slice AL nL cL) d, .int .i64 n] w fun x w' => x = .returned (.tuple #[rdv (.slice AB nB cB) (.slice AL nL cL) (armD d n), .int .i64 (armE n : Int)]) ∧ Below w.heap.size w w' := by
  have hres : Tryd.f29.results = #[.cell 4 41, .tmp 5] := by kernel_rfl
  unfold rdv armD armE
  obtain ⟨r, hr⟩ : ∃ r, r = d.armed := ⟨_, rfl⟩
  obtain ⟨o, ho⟩ : ∃ o, o = d.off := ⟨_, rfl⟩
  by_cases hn : n < 0
  · rw [if_pos hn, if_pos hn, ← hr, ← ho]
    clear hr ho
    go_enter Tryd.func29, Tryd.ntmps29
    go_wp2
    refine bodyPost_ret (v := .tuple #[.agg #[.slice AB nB cB, .slice AL nL cL, .int .i64 r, .bool o], .int .i64 1]) ?_ rfl ⟨rfl, ((Below.refl _ _).alloc (Nat.le_refl _) _).alloc (by simp) _⟩
    simp only [results, hres]
    go_simp
  · rw [if_neg hn, if_neg hn]
    show Calls Tryd.prog 29 #[.agg #[.slice AB nB cB, .slice AL nL cL, .int .i64 d.armed, .bool d.off], .int .i64 n] w fun x w' => x = .returned (.tuple #[.agg #[.slice AB nB cB, .slice AL nL cL, .int .i64 n, .bool d.off], .int .i64 ((0 : Nat) : Int)]) ∧ _
    rw [← hr, ← ho]
    clear hr ho
    go_enter Tryd.func29, Tryd.ntmps29
    go_wp2
    refine bodyPost_ret (v := .tuple #[.agg #[.slice AB nB cB, .slice AL nL cL, .int .i64 n, .bool o], .int .i64 0]) ?_ rfl ⟨rfl, ((Below.refl _ _).alloc (Nat.le_refl _) _).alloc (by simp) _⟩
    simp only [results, hres]
    go_simp

set_option maxHeartbeats 1000000 in
theorem RefRead_any (vB vL : Value) (d : Dk) (at_ n : Int) (w : World) (T : Nat → Prop) (h : RD w T vB vL d) (ha : inI at_) (hn : inI n) :
    Calls Tryd.prog 20 #[rdv vB vL d, .int .i64 at_, .int .i64 n] w fun x w' => ∃ v, x = .returned (.tuple #[v, .int .i64 (badE d at_ n : Int)]) ∧ SlT w' (fun k => w.heap.size ≤ k ∧ k < w'.heap.size) v (readB d at_ n) ∧ Below w.heap.size w w' := by
  obtain ⟨AB, cB, rfl, _⟩ := h.b
  obtain ⟨AL, cL, rfl, _⟩ := h.l.form
  generalize hvB : d.B.length = nB at h ⊢
  generalize hvL : d.L.length = nL at h ⊢
  obtain ⟨W1, hW1⟩ : ∃ W1, W1 = w.alloc (.cells #[.slice AB nB cB, .slice AL nL cL, .int .i64 d.armed, .bool d.off] 41) := ⟨_, rfl⟩
  have hb1 : Below w.heap.size w W1 := by rw [hW1]; exact (Below.refl _ _).alloc (Nat.le_refl _) _
  have hs1 : W1.heap.size = w.heap.size + 1 := by rw [hW1, World.size_alloc]
  have h1 := h.below hb1
  have hc : ∀ W, Below W1.heap.size W1 W → W.cell? ⟨w.heap.size, 0, none⟩ = some (.slice AB nB cB) ∧ W.cell? ⟨w.heap.size, 1, none⟩ = some (.slice AL nL cL) ∧ W.cell? ⟨w.heap.size, 2, none⟩ = some (.int .i64 d.armed) ∧ W.cell? ⟨w.heap.size, 3, none⟩ = some (.bool d.off) := by
    intro W hW
    have e : ∀ j, W.cell? ⟨w.heap.size, j, none⟩ = W1.cell? ⟨w.heap.size, j, none⟩ := fun j => hW.cell (p := ⟨w.heap.size, j, none⟩) (by show w.heap.size < W1.heap.size; omega)
    refine ⟨?_, ?_, ?_, ?_⟩
    all_goals
      rw [e, hW1, cell_of_row _ w.heap.size _ _ _ (0, 0) (heap_alloc_new w _)]
      rfl
  have HR := Lib.hid h1
  have HB1 := Lib.hid hb1
  have HC := Lib.hid hc
  have HI := Lib.hid (And.intro ha hn)
  have HS1 := Lib.hid hs1
  have hcall := RefBad_any _ _ d at_ n W1 T h1 ha.2 hn.1
  unfold rdv at hcall ⊢
  have HCALL := Lib.hid hcall
  obtain ⟨e, he⟩ : ∃ e, e = badE d at_ n := ⟨_, rfl⟩
  rw [← he] at HCALL ⊢
  have HE := Lib.hid he
  have c1 := (hc W1 (Below.refl _ _))
  obtain ⟨q0, q1, q2, q3⟩ := c1
  clear h h1 hb1 hc ha hn hs1 hcall
  by_cases he0 : e = 0
  · subst he0
    obtain ⟨g1, g2, g3, g4, g5⟩ := badE_in he.symm
    have hx : readB d at_ n = (d.now.drop at_.toNat).take n.toNat := by unfold readB; rw [if_pos he.symm]
    have hnl := HR.out.ok.now
    have hbig := HR.out.big
    obtain ⟨a, rfl⟩ : ∃ a : Nat, at_ = (a : Int) := ⟨at_.toNat, by omega⟩
    obtain ⟨k, rfl⟩ : ∃ k : Nat, n = (k : Int) := ⟨n.toNat, by omega⟩
    have hak : a + k ≤ d.now.length := by omega
    have HX := Lib.hid (And.intro hx hak)
    have i1 : (a : Int) + (k : Int) ≤ 4194304 := by omega
    have i0 : (0 : Int) ≤ (a : Int) := by omega
    have ik : (0 : Int) ≤ (k : Int) := by omega
    have HDB := Lib.hid (And.intro hnl hbig)
    have hwr0 : w.heap.size + 1 = w.heap.size + 1 := rfl
    clear hwr0
    clear he g1 g2 g3 g4 g5 hx hnl hbig hak
    generalize d.armed = r at hW1 q2 HCALL
    generalize d.off = o at hW1 q3 HCALL
    have HW1 := Lib.hid hW1
    go_enter Tryd.func20, Tryd.ntmps20
    go_upto_region 1 with fail
    rw [← hW1]
    clear hW1
    obtain ⟨E, hE⟩ : ∃ E, E = a + k := ⟨_, rfl⟩
    have iE : (a : Int) + (k : Int) = (E : Int) := by omega
    have iW : IntKind.i64.wrap (E : Int) = (E : Int) := IntWalk.i64_in _ (by omega)
    have iaE : (a : Int) ≤ (E : Int) := by omega
    have eEa : E - a = k := by omega
    have HEE := Lib.hid hE
    clear hE
    rw [show ((0 : Nat) : Int) = 0 from rfl] at HCALL
    go_upto_region 4 with (go_at_call 33; go_must (refine HCALL.out.mono ?_; rintro y w2 ⟨rfl, hb2⟩; have HB2 := Lib.hid hb2; clear hb2))
    clear q0 q1 q2 q3
    obtain ⟨q0, q1, q2, q3⟩ := HC.out w2 HB2.out
    have hnow := RefNow_any _ _ _ w2 T (HR.out.below HB2.out)
    unfold rdv at hnow
    have hn3 : d.now.length = d.now.length := rfl
    obtain ⟨M, hM⟩ : ∃ M, M = d.now.length := ⟨_, rfl⟩
    have HM := Lib.hid hM
    have hEM : (E : Int) ≤ (M : Int) := by have := HX.out.2; have := HEE.out; omega
    have hM1 : 0 < M := by have := HDB.out.1; have := HR.out.one; omega
    clear hn3 hM
    go_wp2_with (go_at_call 34; go_must (refine hnow.mono ?_; rintro y w3 ⟨v3, rfl, hs3, hb3⟩; obtain ⟨A3, c3, rfl, hc31, hc32, hs3⟩ := hs3.named HM.out; have hc31I : (M : Int) ≤ (c3 : Int) := (by omega); have HS3 := Lib.hid hs3; clear hs3 hc31 hc32; have HB3 := Lib.hid hb3; clear hb3))
    all_goals
      go_ret2
      refine ⟨_, rfl, ?_, HB1.out.trans ((HB2.out.trans (HB3.out.mono HB2.out.size)).mono (by have := HS1.out; omega))⟩
      rw [HX.out.1]
      have hsl : SlT w3 (fun k => w.heap.size ≤ k ∧ k < w3.heap.size) (.slice A3 M c3) d.now := HS3.out.mono fun k hk => ⟨by have := HB1.out.size; have := HB2.out.size; have := hk.1; omega, hk.2⟩
      have hs4 := (hsl.cut (k := a) (by have := HX.out.2; omega)).front (k := k) (by rw [List.length_drop]; have := HX.out.2; omega)
      rw [show (a : Int).toNat = a from by omega, show (k : Int).toNat = k from by omega]
      by_cases hca : c3 = a
      · rw [if_pos hca, show c3 - a = 0 from by omega] at hs4
        first
          | exact hs4
          | exact absurd hca (by assumption)
      · rw [if_neg hca] at hs4
        first
          | exact hs4
          | exact absurd (by assumption) hca
  · have hx : readB d at_ n = [] := by unfold readB; rw [if_neg (by omega)]
    have heI : ¬ (e : Int) = 0 := by omega
    have heB : ((e : Int) == 0) = false := by rw [beq_eq_false_iff_ne]; exact heI
    have HX := Lib.hid hx
    clear he hx he0
    generalize d.armed = r at hW1 q2 HCALL
    generalize d.off = o at hW1 q3 HCALL
    go_enter Tryd.func20, Tryd.ntmps20
    go_upto_region 1 with fail
    rw [← hW1]
    clear hW1
    go_wp2_with (go_at_call 33; go_must (refine HCALL.out.mono ?_; rintro y w2 ⟨rfl, hb2⟩; have HB2 := Lib.hid hb2; clear hb2))
    go_ret2
    exact ⟨_, rfl, by rw [HX.out]; exact SlT.nil_ _ _, HB1.out.trans (HB2.out.mono (by have := HS1.out; omega))⟩

end Go.Proofs.YtlhagbcomnjnoaaDoor.pk
