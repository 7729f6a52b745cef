/-
  The tape's own write, Append and Reset: walked.
-/
import Derived.Test.YthcikgbnenfjpaaDoorTapC
import Derived.StillTailTactics
import Derived.Outline
namespace Go.Proofs.YthcikgbnenfjpaaDoor.pk
open Go Go.RowKit
set_option maxRecDepth 100000

/-- A footprint and a block more. -/
def SQ (S : Nat → Prop) (q : Nat) : Nat → Prop := fun k => S k ∨ k = q

section
variable {C : ConD} {w w' : World} {S S' : Nat → Prop} {q p : Nat} {d d' : Dk} {t : Tm}

theorem frame_set (h : C.DK w S p d) (hq : ¬ S q) (j : Nat) (v : Value) : C.DK (w.setCell ⟨q, j, none⟩ v) S p d :=
  C.frame h fun k hk => by
    have : k ≠ q := fun e => hq (e ▸ hk)
    simp [World.setCell, Array.getElem?_modify, Ne.symm this]
theorem Tp.turn (h : Tp C w S q p d t) (hd : C.DK w' S' p d') (ht : Turn S S' w w') (hl : d'.B.length = d.B.length) : Tp C w' S' q p d' t :=
  ⟨hd, by unfold TBox; rw [ht.kept.block q h.box.lt h.out]; exact h.box, fun hs => by
    rcases ht.new q hs with h1 | h1
    · exact h.out h1
    · have := h.box.lt; omega, by rw [hl]; exact h.dis, h.five, h.fin, h.num⟩
theorem turn_set (q j : Nat) (v : Value) : Turn (SQ S q) (SQ S q) w (w.setCell ⟨q, j, none⟩ v) :=
  ⟨⟨rfl, rfl, rfl, by simp [World.setCell], fun k _ hn => by
    have : k ≠ q := fun e => hn (Or.inr e)
    simp [World.setCell, Array.getElem?_modify, Ne.symm this]⟩, fun _ hk => Or.inl hk⟩
theorem Tp.setDead (h : Tp C w S q p d t) (e : Nat) : Tp C (w.setCell ⟨q, 5, none⟩ (er e)) S q p d { t with dead := e } :=
  ⟨frame_set h.dk h.out _ _, by have := h.box; unfold TBox at this ⊢; simp [World.setCell, Array.getElem?_modify, this], h.out, h.dis, h.five, h.fin, h.num⟩
theorem Tp.setFin (h : Tp C w S q p d t) (f n : Nat) (hf : f ≤ t.len) (hn : n ≤ f) : Tp C ((w.setCell ⟨q, 3, none⟩ (.int .i64 (f : Int))).setCell ⟨q, 4, none⟩ (.int .i64 (n : Int))) S q p d { t with fin := f, n := n } :=
  ⟨frame_set (frame_set h.dk h.out _ _) h.out _ _, by have := h.box; unfold TBox at this ⊢; simp [World.setCell, Array.getElem?_modify, this], h.out, h.dis, h.five, hf, hn⟩
theorem turn_sq (ht : Turn S S' w w') (q : Nat) : Turn (SQ S q) (SQ S' q) w w' :=
  ⟨ht.kept.mono fun _ => Or.inl, fun k hk => by
    rcases hk with hk | hk
    · rcases ht.new k hk with h1 | h1
      · exact Or.inl (Or.inl h1)
      · exact Or.inr h1
    · exact Or.inl (Or.inr hk)⟩

theorem chain_len (d : Dk) (hok : d.Ok) (k : Nat) (x : List UInt8) : (chainS (putS k x d) syncS).1.B.length = d.B.length := by
  unfold chainS putS syncS
  by_cases h : putE d (k : Int) x = 0
  · rw [if_pos h]
    show (syncD (putD d k x)).B.length = _
    rw [syncD_len (putD_ok hok _ _), putD_len]
  · rw [if_neg h]
    exact putD_len _ _ _

set_option maxHeartbeats 1000000 in
theorem write_any (h : Tp C w S q p d t) (k : Nat) (hk : k ≤ 4194304) (hL : d.L.length < 100000) (A : Option Addr) (m c : Nat) (x : List UInt8) (hx : SlT w (Av w S) (.slice A m c) x) :
    Calls Tryd.prog 33 #[.pointer (some ⟨q, 0, none⟩), .int .i64 (k : Int), .slice A m c] w fun r w' => ∃ S', r = .returned (er (chainS (putS (t.at_ + k) x d) syncS).2) ∧
      Tp C w' S' q p (chainS (putS (t.at_ + k) x d) syncS).1 { t with dead := (chainS (putS (t.at_ + k) x d) syncS).2 } ∧ Turn (SQ S q) (SQ S' q) w w' := by
  obtain ⟨c0, c1, -, -, -, -, -⟩ := h.box.cells
  have hsz := h.sizes
  have g1 : (t.at_ : Int) ≤ 4194304 := by omega
  have iw : IntKind.i64.wrap ((t.at_ : Int) + (k : Int)) = (t.at_ : Int) + (k : Int) := IntWalk.i64_in _ (by omega)
  have hx' : SlT w.drew (Av w.drew S) (.slice A m c) x := hx
  have cw := C.cWrite w.drew S p d ((t.at_ : Int) + (k : Int)) A m c x (C.frame h.dk fun _ _ => rfl) (by unfold inI; omega) hL hx'
  have e1 : putS (t.at_ + k) x d = (putD d ((t.at_ : Int) + (k : Int)) x, putE d ((t.at_ : Int) + (k : Int)) x) := by
    unfold putS
    rw [show ((t.at_ + k : Nat) : Int) = (t.at_ : Int) + (k : Int) by omega]
  rw [e1]
  have hpl := putD_len d ((t.at_ : Int) + (k : Int)) x
  have hok := (C.ok h.dk).1
  have H := Lib.hid h
  generalize hpe : putE d ((t.at_ : Int) + (k : Int)) x = pe at cw ⊢
  generalize hpd : putD d ((t.at_ : Int) + (k : Int)) x = pd at cw hpl ⊢
  have hpok : pd.Ok := by rw [← hpd]; exact putD_ok hok _ _
  have CW := Lib.hid cw
  have HP := Lib.hid (And.intro hpl hpok)
  clear h hx hx' cw hsz e1 hpl hpe hpd hok hpok
  by_cases h0 : pe = 0
  · subst h0
    show Calls _ _ _ _ fun r w' => ∃ S', r = .returned (er (syncS pd).2) ∧ Tp C w' S' q p (syncS pd).1 { t with dead := (syncS pd).2 } ∧ Turn (SQ S q) (SQ S' q) w w'
    have hsl := syncD_len HP.out.2
    have hE : (syncS pd).2 = syncE pd := rfl
    have hD : (syncS pd).1 = syncD pd := rfl
    rw [hE, hD]
    have HS := Lib.hid (hsl.trans HP.out.1)
    clear hsl hE hD
    have cs := fun (W : World) (S2 : Nat → Prop) (hd : C.DK W S2 p pd) => C.cSync W S2 p pd hd
    by_cases hs0 : syncE pd = 0
    · rw [hs0, er_zero] at cs
      rw [hs0]
      have CS := Lib.hid cs
      clear cs hs0
      go_enter Tryd.func33, Tryd.ntmps33
      go_wp2_with fail
      go_still_tail 12, (by kernel_rfl)
      change wpList _ _ _ _ _ w.drew
      clear c0 c1
      go_upto_region 3 with (go_at_call 9; go_must (refine CW.out.mono ?_; rintro y w2 ⟨S2, rfl, h2, ht2⟩; rw [er_zero]; have T2 := Lib.hid (And.intro (H.out.turn h2 ht2.undrew HP.out.1) ht2.undrew); clear h2 ht2; obtain ⟨c0, -, -, -, -, -, -⟩ := T2.out.1.box.cells))
      go_upto_region 4 with (go_at_call 10; go_must (refine (CS.out w2 S2 T2.out.1.dk).mono ?_; rintro y w3 ⟨S3, rfl, h3, ht3⟩; have T3 := Lib.hid (And.intro (T2.out.1.turn h3 ht3 (HS.out.trans HP.out.1.symm)) (T2.out.2.trans ht3)); clear h3 ht3))
      obtain ⟨-, -, -, -, -, c5, cf⟩ := T3.out.1.box.cells
      have f5 := cf 5
      clear cf c0
      go_wp2_with fail
      go_ret
      exact ⟨S3, rfl, T3.out.1.setDead 0, (turn_sq T3.out.2 q).trans (turn_set _ _ _)⟩
    · have hE := er_ne hs0
      have HE := Lib.hid hE
      rw [hE] at cs
      rw [hE]
      have CS := Lib.hid cs
      clear cs hs0 hE
      go_enter Tryd.func33, Tryd.ntmps33
      go_wp2_with fail
      go_still_tail 12, (by kernel_rfl)
      change wpList _ _ _ _ _ w.drew
      clear c0 c1
      go_upto_region 3 with (go_at_call 9; go_must (refine CW.out.mono ?_; rintro y w2 ⟨S2, rfl, h2, ht2⟩; rw [er_zero]; have T2 := Lib.hid (And.intro (H.out.turn h2 ht2.undrew HP.out.1) ht2.undrew); clear h2 ht2; obtain ⟨c0, -, -, -, -, -, -⟩ := T2.out.1.box.cells))
      go_upto_region 4 with (go_at_call 10; go_must (refine (CS.out w2 S2 T2.out.1.dk).mono ?_; rintro y w3 ⟨S3, rfl, h3, ht3⟩; have T3 := Lib.hid (And.intro (T2.out.1.turn h3 ht3 (HS.out.trans HP.out.1.symm)) (T2.out.2.trans ht3)); clear h3 ht3))
      obtain ⟨-, -, -, -, -, c5, cf⟩ := T3.out.1.box.cells
      have f5 := cf 5
      clear cf c0
      go_wp2_with fail
      go_ret
      have hsd := T3.out.1.setDead (syncE pd)
      rw [HE.out] at hsd
      exact ⟨S3, rfl, hsd, (turn_sq T3.out.2 q).trans (turn_set _ _ _)⟩
  · have e2 : chainS (pd, pe) syncS = (pd, pe) := if_neg h0
    rw [e2]
    show Calls _ _ _ _ fun r w' => ∃ S', r = .returned (er pe) ∧ Tp C w' S' q p pd { t with dead := pe } ∧ Turn (SQ S q) (SQ S' q) w w'
    have hE := er_ne h0
    have HE := Lib.hid hE
    rw [hE] at CW
    rw [hE]
    clear e2 hE h0
    go_enter Tryd.func33, Tryd.ntmps33
    go_wp2_with fail
    go_still_tail 12, (by kernel_rfl)
    change wpList _ _ _ _ _ w.drew
    clear c0 c1
    go_upto_region 3 with (go_at_call 9; go_must (refine CW.out.mono ?_; rintro y w2 ⟨S2, rfl, h2, ht2⟩; have T2 := Lib.hid (And.intro (H.out.turn h2 ht2.undrew HP.out.1) ht2.undrew); clear h2 ht2; obtain ⟨-, -, -, -, -, c5, cf⟩ := T2.out.1.box.cells; have f5 := cf 5; clear cf))
    go_wp2_with fail
    go_ret
    have hsd := T2.out.1.setDead pe
    rw [HE.out] at hsd
    exact ⟨S2, rfl, hsd, (turn_sq T2.out.2 q).trans (turn_set _ _ _)⟩
end

end Go.Proofs.YthcikgbnenfjpaaDoor.pk
