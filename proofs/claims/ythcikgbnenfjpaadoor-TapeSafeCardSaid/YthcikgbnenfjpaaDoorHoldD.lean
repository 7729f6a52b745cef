/-
  What the program's own disk promises besides: its size, its power, what is armed; the nil disk's calls.
-/
import Derived.Test.YthcikgbnenfjpaaDoorHold
import Derived.Test.YthcikgbnenfjpaaDoorConE
import Derived.Test.YthcikgbnenfjpaaDoorConN
namespace Go.Proofs.YthcikgbnenfjpaaDoor.pk
open Go Go.RowKit
set_option maxRecDepth 100000

section
variable {w w' : World} {S : Nat → Prop} {p gn gs nc sc n : Nat} {vw : Value} {cs : List Value} {nowb safeb : List UInt8} {L : List (Nat × List UInt8)} {off ar : Bool} {ah : Int}
theorem Down_any (h : Rep w S p gn gs nc sc n vw cs nowb safeb L off ar ah) :
    Calls Tryd.prog 23 #[.pointer (some ⟨p, 0, none⟩)] w fun x w' => x = .returned (.bool off) ∧ w = w' := by
  obtain ⟨-, -, -, c3, -, -, -⟩ := h.cells
  clear h
  cases off with
  | true =>
    go_enter Tryd.func23, Tryd.ntmps23
    go_wp2
    go_ret
    exact ⟨rfl, rfl⟩
  | false =>
    go_enter Tryd.func23, Tryd.ntmps23
    go_wp2
    go_ret
    exact ⟨rfl, rfl⟩
end
theorem Arm_any {R : Nat → Prop} {wR w : World} {S : Nat → Prop} {p : Nat} {d : Dk} (h : DKr R wR w S p d) (n : Int) (hn : inI n) :
    Calls Tryd.prog 22 #[.pointer (some ⟨p, 0, none⟩), .int .i64 n] w fun r w' => ∃ S', r = .returned (er (armE n)) ∧ DKr R wR w' S' p (armD d n) ∧ Turn S S' w w' := by
  have hd := h
  obtain ⟨gn, gs, nc, sc, vw, cs, ar, ah, hr, hp, hb, ha⟩ := h
  obtain ⟨-, -, -, -, c4, c5, cf⟩ := hr.cells
  have f4 := cf 4
  have f5 := cf 5
  clear cf
  unfold inI at hn
  obtain ⟨hn1, hn2⟩ := hn
  by_cases h0 : n < 0
  · have e1 : armE n = 1 := by unfold armE; rw [if_pos h0]
    have e2 : armD d n = d := by unfold armD; rw [if_pos h0]
    rw [e1, e2]
    have HD := Lib.hid hd
    clear hd hr hp hb ha e1 e2
    go_enter Tryd.func22, Tryd.ntmps22
    go_wp2
    go_ret
    exact ⟨S, rfl, HD.out, Turn.refl _ _⟩
  · have e1 : armE n = 0 := by unfold armE; rw [if_neg h0]
    have e2 : armD d n = { d with armed := n } := by unfold armD; rw [if_neg h0]
    rw [e1, e2, er_zero]
    have hk : Kept (Mut p gn gs vw) w ((w.setCell ⟨p, 4, none⟩ (.bool true)).setCell ⟨p, 5, none⟩ (.int .i64 n)) := (kept_set (Or.inl rfl) _).trans (kept_set (Or.inl rfl) _)
    have HF := Lib.hid (show DKr R wR ((w.setCell ⟨p, 4, none⟩ (.bool true)).setCell ⟨p, 5, none⟩ (.int .i64 n)) S p { d with armed := n } ∧ Turn S S w ((w.setCell ⟨p, 4, none⟩ (.bool true)).setCell ⟨p, 5, none⟩ (.int .i64 n)) from
      ⟨⟨gn, gs, nc, sc, vw, cs, true, n, (hr.set4 true).set5 n, pins_go hp hr.foot hk, hb, ⟨hn2, fun _ => ⟨(decide_eq_true (by show (0 : Int) ≤ n; omega)).symm, fun _ => rfl⟩⟩⟩, mut_turn hr hk⟩)
    clear hd hr hp hb ha e1 e2 hk
    go_enter Tryd.func22, Tryd.ntmps22
    go_wp2
    go_ret
    exact ⟨rfl, S, HF.out.1, HF.out.2⟩

theorem instE (R : Nat → Prop) (wR : World) : ConE (inst R wR) where
  cDown _ _ _ _ := fun ⟨_, _, _, _, _, _, _, _, hr, _⟩ => (Down_any hr).mono fun _ _ ⟨hx, hw⟩ => ⟨hx, hw ▸ Below.refl _ _⟩
  cArm _ _ _ _ n h hn := Arm_any h n hn

theorem hasNil_any (at_ k : Int) (w : World) : Calls Tryd.prog 26 #[.pointer none, .int .i64 at_, .int .i64 k] w fun x w' => x = .returned (.bool false) ∧ w = w' := by
  go_enter Tryd.func26, Tryd.ntmps26
  go_wp2
  go_ret
  exact ⟨rfl, rfl⟩
theorem ReadNil_any (at_ k : Int) (w : World) : Calls Tryd.prog 21 #[.pointer none, .int .i64 at_, .int .i64 k] w fun x w' => x = .returned (.tuple #[.slice none 0 0, er 1]) ∧ Below w.heap.size w w' := by
  go_enter Tryd.func21, Tryd.ntmps21
  go_wp2_with (go_at_call 26; go_must (refine (hasNil_any _ _ _).mono ?_; rintro y w1 ⟨rfl, rfl⟩))
  go_ret2
  exact ⟨rfl, Below.refl _ _⟩
theorem WriteNil_any (at_ : Int) (A : Option Addr) (n c : Nat) (w : World) : Calls Tryd.prog 9 #[.pointer none, .int .i64 at_, .slice A n c] w fun x w' => x = .returned (er 1) ∧ Below w.heap.size w w' := by
  go_enter Tryd.func9, Tryd.ntmps9
  go_wp2_with (go_at_call 26; go_must (refine (hasNil_any _ _ _).mono ?_; rintro y w1 ⟨rfl, rfl⟩))
  go_ret
  exact ⟨rfl, Below.refl _ _⟩
theorem SyncNil_any (w : World) : Calls Tryd.prog 10 #[.pointer none] w fun x w' => x = .returned (er 1) ∧ Below w.heap.size w w' := by
  go_enter Tryd.func10, Tryd.ntmps10
  go_wp2
  go_ret
  exact ⟨rfl, Below.refl _ _⟩
theorem ArmNil_any (n : Int) (w : World) : Calls Tryd.prog 22 #[.pointer none, .int .i64 n] w fun x w' => x = .returned (er 1) ∧ Below w.heap.size w w' := by
  go_enter Tryd.func22, Tryd.ntmps22
  go_wp2
  go_ret
  exact ⟨rfl, Below.refl _ _⟩
theorem StartNil_any (v : Value) (w : World) : Calls Tryd.prog 24 #[.pointer none, v] w fun x w' => x = .returned (.tuple #[]) ∧ Below w.heap.size w w' := by
  go_enter Tryd.func24, Tryd.ntmps24
  go_wp2
  exact bodyPost_ret (v := .tuple #[]) (results_none (by kernel_rfl) _ _ _) rfl ⟨rfl, Below.refl _ _⟩
theorem DownNil_any (w : World) : Calls Tryd.prog 23 #[.pointer none] w fun x w' => x = .returned (.bool false) ∧ Below w.heap.size w w' := by
  go_enter Tryd.func23, Tryd.ntmps23
  go_wp2
  go_ret
  exact ⟨rfl, Below.refl _ _⟩

theorem conN : ConN where
  nRead := ReadNil_any
  nWrite := WriteNil_any
  nSync := SyncNil_any
  nArm := ArmNil_any
  nStart := StartNil_any
  nDown := DownNil_any
/-- The program's disk with all that it promises. -/
theorem conBE (w0 : World) : ConB ConE (con w0) := conB instE w0
theorem conE (w0 : World) : ConE (con w0) := instE _ _

end Go.Proofs.YthcikgbnenfjpaaDoor.pk
