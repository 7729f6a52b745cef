/-
  The document's own Open of a frame.
-/
import Derived.Test.YtfblgkcipnkhaaaGreatDoorJh
import Derived.Test.YtfblgkcipnkhaaaGreatDoorJm
import Derived.Test.YtfblgkcipnkhaaaGreatDoorPureO
namespace Go.Proofs.YtfblgkcipnkhaaaGreatDoor.pk
open Go Go.RowKit
set_option maxRecDepth 100000

set_option maxHeartbeats 8000000 in
theorem RefOpenM_s (A : Option Addr) (n c : Nat) (b : List UInt8) (w : World) (h : Bys w (.slice A n c) b) (m : Ms) (k : Nat) (hr : (m, k) = openM b) (nd ne : Nat) (hnd : nd = m.data.length) (hne : ne = m.ents.length) :
    Calls Tryz.prog 21 #[.slice A n c] w fun y w' => ∃ Ad cd Ae ce, y = .returned (.tuple #[.agg #[.int .i64 m.kind, .int .i64 m.frm, .int .i64 m.to, .int .i64 m.term, .int .i64 m.index, .int .i64 m.logTerm, .int .i64 m.commit, .int .i64 m.round, .bool m.ok, .int .i64 m.off, .slice Ad nd cd, .slice Ae ne ce], .int .i64 (k : Int)]) ∧ InM m Ad nd cd Ae ne ce w' ∧ Below w.heap.size w w' := by
  obtain ⟨W0, g, hW0, hg, hb0, hz0, hsz⟩ := one_box w (.cells #[.int .i64 0, .int .i64 0, .int .i64 0, .int .i64 0, .int .i64 0, .int .i64 0, .int .i64 0, .int .i64 0, .bool false, .int .i64 0, .slice none 0 0, .slice none 0 0] 25)
  have hz : M12 W0 g (.int .i64 0) (.int .i64 0) (.int .i64 0) (.int .i64 0) (.int .i64 0) (.int .i64 0) (.int .i64 0) (.int .i64 0) (.bool false) (.int .i64 0) (.slice none 0 0) (.slice none 0 0) := hz0
  have HW := Lib.hid (And.intro hW0 hg)
  have HZ := Lib.hid (And.intro hz (And.intro hb0 (show W0.heap.size = g + 1 by omega)))
  have HF := Lib.hid fun W (hW : Below W0.heap.size W0 W) => (show M12 W g (.int .i64 0) (.int .i64 0) (.int .i64 0) (.int .i64 0) (.int .i64 0) (.int .i64 0) (.int .i64 0) (.int .i64 0) (.bool false) (.int .i64 0) (.slice none 0 0) (.slice none 0 0) from hz.below hW)
  have CO := Lib.hid (RefOpenB_any A n c b W0 w.heap.size hb0.size (h.sl_.below hb0))
  have CD := Lib.hid fun (hd : (m, k) = decM (openX b)) A2 n2 c2 W (hB : w.heap.size ≤ W.heap.size) (hS : Sl W w.heap.size (.slice A2 n2 c2) (openX b)) => RefDecM_s A2 n2 c2 (openX b) W w.heap.size hB hS m k hd nd ne hnd hne
  clear hz0 hW0 hg hb0 hz hsz
  have HN := Lib.hid (And.intro hnd hne)
  unfold openM at hr
  obtain ⟨e, he⟩ : ∃ e, e = openE b := ⟨_, rfl⟩
  obtain ⟨kk, hkk⟩ : ∃ kk, kk = (openK b).toNat := ⟨_, rfl⟩
  rw [← he, ← hkk] at CO
  by_cases h1 : e = 0 ∧ kk = 109
  · have hk : openK b = 109 := by apply UInt8.toNat_inj.1; rw [← hkk, h1.2]; rfl
    rw [if_pos ⟨he ▸ h1.1, hk⟩] at hr
    have HR := Lib.hid hr
    obtain ⟨rfl, rfl⟩ := h1
    have e00 : ((0 : Nat) : Int) = 0 := rfl
    have e109 : ((109 : Nat) : Int) = 109 := rfl
    rw [e00, e109] at CO
    clear hr he hkk hk h hnd hne
    go_enter Tryz.func21, Tryz.ntmps21
    go_upto_region 1 with fail
    rw [← HW.out.1]
    try rw [← HW.out.2]
    go_wp2_with (first
      | (go_at_call 56; go_must (refine CO.out.mono ?_; rintro y w1 ⟨v, rfl, hS, hb⟩; obtain ⟨A2, c2, hv, hx1, hx2, hx3⟩ := id hS; subst hv; have T := HF.out w1 hb; obtain ⟨z0, z1, z2, z3, z4, z5, z6, z7, z8, z9, z10, z11⟩ := cells12 T; have f0 := frozen_own T 0; have f1 := frozen_own T 1; have f2 := frozen_own T 2; have f3 := frozen_own T 3; have f4 := frozen_own T 4; have f5 := frozen_own T 5; have f6 := frozen_own T 6; have f7 := frozen_own T 7; have f8 := frozen_own T 8; have f9 := frozen_own T 9; have f10 := frozen_own T 10; have f11 := frozen_own T 11; have H1 := Lib.hid (And.intro hS (And.intro hb T)); clear hS hb hx1 hx2 hx3 T))
      | (go_at_call 12; go_must (refine (CD.out HR.out A2 _ c2 _ (Nat.le_trans HZ.out.2.1.size H1.out.2.1.size) H1.out.1).mono ?_; rintro y w2 ⟨Ad, cd, Ae, ce, rfl, hi, hb⟩; have T := H1.out.2.2.below hb; clear z0 z1 z2 z3 z4 z5 z6 z7 z8 z9 z10 z11 f0 f1 f2 f3 f4 f5 f6 f7 f8 f9 f10 f11; obtain ⟨z0, z1, z2, z3, z4, z5, z6, z7, z8, z9, z10, z11⟩ := cells12 T; have f0 := frozen_own T 0; have f1 := frozen_own T 1; have f2 := frozen_own T 2; have f3 := frozen_own T 3; have f4 := frozen_own T 4; have f5 := frozen_own T 5; have f6 := frozen_own T 6; have f7 := frozen_own T 7; have f8 := frozen_own T 8; have f9 := frozen_own T 9; have f10 := frozen_own T 10; have f11 := frozen_own T 11; have H2 := Lib.hid (And.intro hi (And.intro (H1.out.2.1.trans (hb.mono H1.out.2.1.size)) (And.intro T H1.out.2.1.size))); clear hi hb T)))
    obtain ⟨F, hF, hE, hbQ, hoth, hsF⟩ := put12 H2.out.2.2.1 (.int .i64 m.kind) (.int .i64 m.frm) (.int .i64 m.to) (.int .i64 m.term) (.int .i64 m.index) (.int .i64 m.logTerm) (.int .i64 m.commit) (.int .i64 m.round) (.bool m.ok) (.int .i64 m.off) (.slice Ad nd cd) (.slice Ae ne ce)
    rw [← hF]
    clear hF z0 z1 z2 z3 z4 z5 z6 z7 z8 z9 z10 z11
    obtain ⟨z0, z1, z2, z3, z4, z5, z6, z7, z8, z9, z10, z11⟩ := cells12 hE
    have hgs := HZ.out.2.2
    have hgw : w.heap.size = g := HW.out.2.symm
    have h1s := H2.out.2.2.2
    have hin := (H2.out.1.move (T' := fun q => q < F.heap.size) (w' := F) (fun q hq _ => hoth q (by rcases hq.1 with h3 | h3 <;> omega)) fun q hq => by rw [hsF]; exact hq.2).inM fun _ hq => hq
    exact bodyPost_ret (v := .tuple #[.agg #[.int .i64 m.kind, .int .i64 m.frm, .int .i64 m.to, .int .i64 m.term, .int .i64 m.index, .int .i64 m.logTerm, .int .i64 m.commit, .int .i64 m.round, .bool m.ok, .int .i64 m.off, .slice Ad nd cd, .slice Ae ne ce], .int .i64 (k : Int)]) (by simp [results, Tryz.results21, go_sem, z0, z1, z2, z3, z4, z5, z6, z7, z8, z9, z10, z11]) rfl ⟨Ad, cd, Ae, ce, rfl, hin, (HZ.out.2.1.trans (H2.out.2.1.mono HZ.out.2.1.size)).trans (hbQ _ (Nat.le_of_eq hgw))⟩
  · have hz : (m, k) = (zm, 3) := by
      rw [hr, if_neg]
      rintro ⟨g1, g2⟩
      exact h1 ⟨he.trans g1, by rw [hkk, g2]; rfl⟩
    obtain ⟨rfl, rfl⟩ := Prod.mk.inj hz
    have h2 : ((e : Int) != 0) = true ∨ (e = 0 ∧ ((kk : Int) != 109) = true) := by
      by_cases h3 : e = 0
      · exact Or.inr ⟨h3, by simp; omega⟩
      · exact Or.inl (by simp; omega)
    have nd0 : nd = 0 := hnd
    have ne0 : ne = 0 := hne
    subst nd0
    subst ne0
    clear hr he hkk h hnd hne hz h1
    rcases h2 with h3 | ⟨rfl, h3⟩
    all_goals
      have e00 : ((0 : Nat) : Int) = 0 := rfl
      try rw [e00] at CO
      go_enter Tryz.func21, Tryz.ntmps21
      go_upto_region 1 with fail
      rw [← HW.out.1]
      try rw [← HW.out.2]
      go_wp2_with (go_at_call 56; go_must (refine CO.out.mono ?_; rintro y w1 ⟨v, rfl, hS, hb⟩; obtain ⟨A2, c2, hv, hx1, hx2, hx3⟩ := id hS; subst hv; have T := HF.out w1 hb; obtain ⟨z0, z1, z2, z3, z4, z5, z6, z7, z8, z9, z10, z11⟩ := cells12 T; have f0 := frozen_own T 0; have f1 := frozen_own T 1; have f2 := frozen_own T 2; have f3 := frozen_own T 3; have f4 := frozen_own T 4; have f5 := frozen_own T 5; have f6 := frozen_own T 6; have f7 := frozen_own T 7; have f8 := frozen_own T 8; have f9 := frozen_own T 9; have f10 := frozen_own T 10; have f11 := frozen_own T 11; have H1 := Lib.hid (And.intro hS (And.intro hb T)); clear hS hb hx1 hx2 hx3 T))
      obtain ⟨F, hF, hE, hbQ, hoth, hsF⟩ := put12 H1.out.2.2 (.int .i64 0) (.int .i64 0) (.int .i64 0) (.int .i64 0) (.int .i64 0) (.int .i64 0) (.int .i64 0) (.int .i64 0) (.bool false) (.int .i64 0) (.slice none 0 0) (.slice none 0 0)
      rw [← hF]
      clear hF z0 z1 z2 z3 z4 z5 z6 z7 z8 z9 z10 z11
      obtain ⟨z0, z1, z2, z3, z4, z5, z6, z7, z8, z9, z10, z11⟩ := cells12 hE
      have hgw : w.heap.size = g := HW.out.2.symm
      exact bodyPost_ret (v := .tuple #[.agg #[.int .i64 0, .int .i64 0, .int .i64 0, .int .i64 0, .int .i64 0, .int .i64 0, .int .i64 0, .int .i64 0, .bool false, .int .i64 0, .slice none 0 0, .slice none 0 0], .int .i64 3]) (by simp [results, Tryz.results21, go_sem, z0, z1, z2, z3, z4, z5, z6, z7, z8, z9, z10, z11]) rfl ⟨none, 0, none, 0, rfl, ⟨Bys.nil_ _, Ents.nil_ _, by unfold zm inI; decide⟩, (HZ.out.2.1.trans (H1.out.2.1.mono HZ.out.2.1.size)).trans (hbQ _ (Nat.le_of_eq hgw))⟩

end Go.Proofs.YtfblgkcipnkhaaaGreatDoor.pk
