/-
  What the program's own disk promises, as the laws' walks ask it.
-/
import Derived.Test.YthcikgbnenfjpaaDoorMineG
namespace Go.Proofs.YthcikgbnenfjpaaDoor.pk
open Go Go.RowKit
set_option maxRecDepth 100000

theorem NewNo_any (n : Int) (w : World) (hn : inI n) (h : n < 1 ∨ 4194304 < n) : Calls Tryd.prog 8 #[.int .i64 n] w fun x w' => x = .returned (.tuple #[.pointer none, er 1]) ∧ Below w.heap.size w w' := by
  clear hn
  rcases h with h | h
  · go_enter Tryd.func8, Tryd.ntmps8
    go_wp2
    go_ret2
    exact ⟨rfl, Below.refl _ _⟩
  · have h1 : ¬ n < 1 := by omega
    go_enter Tryd.func8, Tryd.ntmps8
    go_wp2
    go_ret2
    exact ⟨rfl, Below.refl _ _⟩

/-- The program's disk: the blocks of R are as in wR. -/
def inst (R : Nat → Prop) (wR : World) : ConD where
  DK w S p d := DKr R wR w S p d
  R := R
  wR := wR
  pin := fun ⟨_, _, _, _, _, _, _, _, _, hp, _, _⟩ k hk => ⟨(hp k hk).1.1, (hp k hk).2⟩
  frame := fun ⟨gn, gs, nc, sc, vw, cs, ar, ah, hr, hp, hb, ha⟩ hk =>
    ⟨gn, gs, nc, sc, vw, cs, ar, ah, ⟨(hk _ hr.sp).trans hr.box, own_block hr.now fun g e => hk g (own_eq e ▸ hr.sn), own_block hr.safe fun g e => hk g (own_eq e ▸ hr.ss), own_block hr.rows fun g e => hk g (hr.sw g e),
      hr.elems.kept fun k hk' _ => hk k hk'.1, hr.d1, hr.d2, hr.d3, hr.d4, hr.sp, hr.sn, hr.ss, hr.sw, fun k hs => by
        have h1 := hk k hs
        have h2 := hr.foot k hs
        rcases Nat.lt_or_ge k _ with h3 | h3
        · exact h3
        · rw [Array.getElem?_eq_none h3, Array.getElem?_eq_getElem h2] at h1
          cases h1⟩, fun k hR => ⟨(hp k hR).1, (hk k (hp k hR).1.1).trans (hp k hR).2⟩, hb, ha⟩
  foot := fun ⟨_, _, _, _, _, _, _, _, hr, _⟩ => hr.foot
  ok := fun ⟨_, _, _, _, _, _, _, _, _, _, hb, _⟩ => hb
  cNewNo := NewNo_any
  cRead := fun w S p d at_ n ⟨_, _, _, _, _, _, _, _, hr, _, ⟨_, _, hb⟩, _⟩ ha hn => by
    have h := Read_any hr hb at_ n ha hn
    have e1 : badE d at_ n = if 0 ≤ at_ ∧ 0 ≤ n ∧ n ≤ (d.B.length : Int) - at_ then (if d.off = true then 13 else 0) else 1 := by
      unfold badE
      by_cases hc : 0 ≤ at_ ∧ 0 ≤ n ∧ n ≤ (d.B.length : Int) - at_
      · rw [if_pos hc, if_pos ⟨hc.1, hc.2.1, by omega, hc.2.2⟩]
      · rw [if_neg hc, if_neg (fun hx => hc ⟨hx.1, hx.2.1, hx.2.2.2⟩)]
    have e2 : readB d at_ n = if 0 ≤ at_ ∧ 0 ≤ n ∧ n ≤ (d.B.length : Int) - at_ ∧ d.off = false then (d.now.drop at_.toNat).take n.toNat else [] := by
      unfold readB
      rw [e1]
      by_cases hc : 0 ≤ at_ ∧ 0 ≤ n ∧ n ≤ (d.B.length : Int) - at_
      · rw [if_pos hc]
        cases ho : d.off with
        | true => simp
        | false => simp [hc.1, hc.2.1, hc.2.2]
      · rw [if_neg hc, if_neg (by omega), if_neg (fun hx => hc ⟨hx.1, hx.2.1, hx.2.2.1⟩)]
    rw [e1, e2]
    exact h
  cWrite := fun _ _ _ _ at_ A n c x h ha hl hx => Write_any h at_ A n c x ha hl hx
  cSync := fun _ _ _ _ h => Sync_any h
  cStart := fun _ _ _ _ A n c keep h hl hk hi => Start_any h A n c keep hl hk hi

/-- THE PROGRAM's DISK, no block shared. -/
def con (w0 : World) : ConD := inst (fun _ => False) w0
theorem conB {Q : ConD → Prop} (hQ : ∀ R wR, Q (inst R wR)) (w0 : World) : ConB Q (con w0) where
  cNew n w h1 h2 := New_any (fun _ => False) w0 (fun _ h => h) n w h1 h2

end Go.Proofs.YthcikgbnenfjpaaDoor.pk
