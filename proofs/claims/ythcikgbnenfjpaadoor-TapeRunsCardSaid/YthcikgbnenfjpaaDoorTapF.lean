/-
  The tape's own Reset: walked.
-/
import Derived.Test.YthcikgbnenfjpaaDoorTapE
namespace Go.Proofs.YthcikgbnenfjpaaDoor.pk
open Go Go.RowKit
set_option maxRecDepth 100000

section
variable {C : ConD} {w w' : World} {S S' : Nat → Prop} {q p : Nat} {d d' : Dk} {t : Tm}

set_option maxHeartbeats 2000000 in
theorem Reset_go (h : Tp C w S q p d t) (hd : t.dead = 0) (hL : d.L.length < 99990) :
    Calls Tryd.prog 19 #[.pointer (some ⟨q, 0, none⟩)] w fun r w' => ∃ S', r = .returned (er (resS d t).2) ∧ Tp C w' S' q p (resS d t).1 (resT t (resS d t).2) ∧ Turn (SQ S q) (SQ S' q) w w' := by
  obtain ⟨-, -, -, -, -, c5, -⟩ := h.box.cells
  rw [hd] at c5
  have c5' : w.cell? ⟨q, 5, none⟩ = some .nilIface := c5
  have hal := h.more ((Below.refl w.heap.size w).alloc (Nat.le_refl _) (.cells #[.int .u8 0] 5))
  have cw := write_any hal 0 (by omega) (by omega) _ 1 1 [0] (lit_av h 0)
  rw [Nat.add_zero] at cw
  have eS : resS d t = chainS (putS t.at_ [0] d) syncS := rfl
  rw [← eS] at cw
  obtain ⟨X, hX⟩ : ∃ X, X = resS d t := ⟨_, rfl⟩
  rw [← hX] at cw ⊢
  obtain ⟨d1, e1⟩ := X
  have HTB := Lib.hid (Turn.of_below (S := SQ S q) ((Below.refl w.heap.size w).alloc (Nat.le_refl _) (.cells #[.int .u8 0] 5)))
  have hlast : ∀ (W : World) (S2 : Nat → Prop), Tp C W S2 q p d1 { t with dead := 0 } → Turn (SQ S q) (SQ S2 q) w W → Tp C ((W.setCell ⟨q, 3, none⟩ (.int .i64 0)).setCell ⟨q, 4, none⟩ (.int .i64 0)) S2 q p d1 (resT t 0) ∧ Turn (SQ S q) (SQ S2 q) w ((W.setCell ⟨q, 3, none⟩ (.int .i64 0)).setCell ⟨q, 4, none⟩ (.int .i64 0)) := fun W S2 hT hTu => by
    have h1 := hT.setFin 0 0 (by omega) (by omega)
    refine ⟨?_, (hTu.trans (turn_set _ _ _)).trans (turn_set _ _ _)⟩
    have x3 : resT t 0 = { { t with dead := 0 } with fin := 0, n := 0 } := by
      unfold resT
      rw [if_pos rfl]
      have : t = { t with dead := 0 } := by cases t; simp only at hd; subst hd; rfl
      conv => lhs; rw [this]
    rw [x3]
    exact h1
  have HLAST := Lib.hid hlast
  have CW := Lib.hid cw
  clear hal cw eS hX hlast h hd c5 hL
  by_cases h0 : e1 = 0
  · subst h0
    have E1 : er (d1, 0).2 = .nilIface := rfl
    show Calls _ _ _ _ fun r w' => ∃ S', r = .returned (er 0) ∧ Tp C w' S' q p d1 (resT t 0) ∧ Turn (SQ S q) (SQ S' q) w w'
    rw [er_zero]
    go_enter Tryd.func19, Tryd.ntmps19
    go_wp2_with (go_at_call 33; go_must (refine CW.out.mono ?_; rintro y w6 ⟨S6, rfl, h6, ht6⟩; rw [E1]; have T6 := Lib.hid (And.intro h6 (HTB.out.trans ht6)); clear h6 ht6; obtain ⟨-, -, -, c3, c4, -, cf⟩ := T6.out.1.box.cells; have f3 := cf 3; have f4 := cf 4; clear cf))
    go_ret
    exact ⟨S6, rfl, HLAST.out w6 S6 T6.out.1 T6.out.2⟩
  · have eT : resT t e1 = { t with dead := e1 } := if_neg h0
    have hE := er_ne h0
    have E1 : er (d1, e1).2 = .iface 58 (.int .i64 (e1 : Int)) := hE
    show Calls _ _ _ _ fun r w' => ∃ S', r = .returned (er e1) ∧ Tp C w' S' q p d1 (resT t e1) ∧ Turn (SQ S q) (SQ S' q) w w'
    rw [hE, eT]
    clear hE eT h0
    go_enter Tryd.func19, Tryd.ntmps19
    go_wp2_with (go_at_call 33; go_must (refine CW.out.mono ?_; rintro y w6 ⟨S6, rfl, h6, ht6⟩; rw [E1]; have T6 := Lib.hid (And.intro h6 (HTB.out.trans ht6)); clear h6 ht6))
    go_ret
    exact ⟨S6, rfl, T6.out.1, T6.out.2⟩
end

end Go.Proofs.YthcikgbnenfjpaaDoor.pk
