/-
  Texts of the proof, joined: HoldM, Row, Read, StdOf, StdIn, ReadM.
-/
import Derived.Test.YtfblgkcipnkhaaaGreatDoorJh
import Derived.Test.YtfblgkcipnkhaaaGreatDoorRows
import Derived.Deep.Draws
import Derived.ProofKit
import Derived.OpenShut
import Derived.LaidMore
import Derived.LaidHandle
import Derived.Stop.LaidErr
import Derived.Deep.DeepHandedRow
import Derived.Deep.DeepWitnessRowRef
import Derived.Deep.Strs
import Derived.Lib.SmallJoins
import Derived.SevenTiedAt
import Derived.Deep.Grids
import Derived.Test.YtfblgkcipnkhaaaGreatDoorCards
import Derived.Test.YtfblgkcipnkhaaaGreatDoorTie
import Derived.ChangeMaps5

/-
  The program's own messages: what they promise holds.
-/
namespace Go.Proofs.YtfblgkcipnkhaaaGreatDoor.pk
open Go Go.RowKit
set_option maxRecDepth 100000

theorem rCount_short {most : Nat} {s : List UInt8 × Nat} {r : (List UInt8 × Nat) × Nat} (h : rCount most s = r) : r.1.1.length ≤ s.1.length := by
  by_cases h0 : (rCount most s).1.2 = 0
  · have h1 := (rCount_inv h0).2.1
    have h2 := congrArg List.length h1
    rw [List.length_append] at h2
    rw [← h]
    omega
  · subst h
    unfold rCount at h0 ⊢
    by_cases hk : s.2 = 0
    · rw [if_pos hk] at h0 ⊢
      by_cases h1 : (rdUint most s.1).1 ≠ 0
      · rw [if_pos h1]
        exact Nat.le_refl _
      · rw [if_neg h1] at h0 ⊢
        by_cases h2 : (rdUint most s.1).2.2.length < (rdUint most s.1).2.1
        · rw [if_pos h2]
          exact Nat.le_refl _
        · rw [if_neg h2] at h0
          exact absurd rfl h0
    · rw [if_neg hk]
      exact Nat.le_refl _
theorem rBool_short {s : List UInt8 × Nat} {r : (List UInt8 × Nat) × Bool} (h : rBool s = r) : r.1.1.length ≤ s.1.length := by
  by_cases h0 : (rBool s).1.2 = 0
  · have h1 := (rBool_inv h0).2
    have h2 := congrArg List.length h1
    rw [List.length_append] at h2
    rw [← h]
    omega
  · subst h
    unfold rBool at h0 ⊢
    by_cases hk : s.2 = 0
    · rw [if_pos hk] at h0 ⊢
      rcases hr : rdBool s.1 with ⟨k1, m, rest⟩
      rw [hr] at h0
      by_cases h1 : k1 = 0
      · simp [h1] at h0
      · simp [h1]
    · rw [if_neg hk]
      exact Nat.le_refl _

theorem Decode_t (A : Option Addr) (n c : Nat) (b : List UInt8) (w : World) (hs : StdP w) (h : Bys w (.slice A n c) b) (hn : n ≤ 140737488355328) (m : Ms) (k : Nat) (hr : (m, k) = decM b) (nd ne : Nat) (hnd : nd = m.data.length) (hne : ne = m.ents.length) :
    Calls Tryz.prog 11 #[.slice A n c] w fun y w' => ∃ Ad cd Ae ce, y = .returned (.tuple #[.agg #[.int .i64 m.kind, .int .i64 m.frm, .int .i64 m.to, .int .i64 m.term, .int .i64 m.index, .int .i64 m.logTerm, .int .i64 m.commit, .int .i64 m.round, .bool m.ok, .int .i64 m.off, .slice Ad nd cd, .slice Ae ne ce], er k]) ∧ InT m Ad nd cd Ae ne ce (fun q => w.heap.size ≤ q ∧ q < w'.heap.size) w' ∧ Below w.heap.size w w' := by
  have hln := h.len_
  rcases h1 : rUint 1099511627776 (b, 0) with ⟨⟨s1, k1⟩, v1⟩
  rcases h2 : rUint 1099511627776 (s1, k1) with ⟨⟨s2, k2⟩, v2⟩
  rcases h3 : rUint 1099511627776 (s2, k2) with ⟨⟨s3, k3⟩, v3⟩
  rcases h4 : rUint 1099511627776 (s3, k3) with ⟨⟨s4, k4⟩, v4⟩
  rcases h5 : rUint 1099511627776 (s4, k4) with ⟨⟨s5, k5⟩, v5⟩
  rcases h6 : rUint 1099511627776 (s5, k5) with ⟨⟨s6, k6⟩, v6⟩
  rcases h7 : rUint 1099511627776 (s6, k6) with ⟨⟨s7, k7⟩, v7⟩
  rcases h8 : rUint 1099511627776 (s7, k7) with ⟨⟨s8, k8⟩, v8⟩
  rcases h9 : rBool (s8, k8) with ⟨⟨s9, k9⟩, v9⟩
  rcases h10 : rUint 1099511627776 (s9, k9) with ⟨⟨s10, k10⟩, v10⟩
  rcases h11 : rBytes 98 4096 (s10, k10) with ⟨⟨s11, k11⟩, v11⟩
  rcases h12 : rCount 64 (s11, k11) with ⟨⟨s12, k12⟩, cnt⟩
  rcases ht : takeEs cnt (s12, k12) with ⟨⟨⟨sF, kF⟩, okF⟩, esF⟩
  have l1 := rUint_small h1 (by omega)
  have l2 := rUint_small h2 (by omega)
  have l3 := rUint_small h3 (by omega)
  have l4 := rUint_small h4 (by omega)
  have l5 := rUint_small h5 (by omega)
  have l6 := rUint_small h6 (by omega)
  have l7 := rUint_small h7 (by omega)
  have l8 := rUint_small h8 (by omega)
  have l10 := rUint_small h10 (by omega)
  have t1 := rUint_short h1
  have t2 := rUint_short h2
  have t3 := rUint_short h3
  have t4 := rUint_short h4
  have t5 := rUint_short h5
  have t6 := rUint_short h6
  have t7 := rUint_short h7
  have t8 := rUint_short h8
  have t9 := rBool_short h9
  have t10 := rUint_short h10
  simp only at t1 t2 t3 t4 t5 t6 t7 t8 t9 t10 l1 l2 l3 l4 l5 l6 l7 l8 l10
  have t11 := rBytes_short h11 (by simp only; omega)
  have t12 := rCount_short h12
  simp only at t11 t12
  have hall : allR b = (((sF, kF), okF), ⟨(v1 : Int), (v2 : Int), (v3 : Int), (v4 : Int), (v5 : Int), (v6 : Int), (v7 : Int), (v8 : Int), v9, (v10 : Int), v11, esF⟩) := by
    unfold allR headR
    simp only [h1, h2, h3, h4, h5, h6, h7, h8, h9, h10, h11, h12, ht]
  have hfin : (m, k) = if (decide (doneR (sF, kF) = 0) && okF && mayM ⟨(v1 : Int), (v2 : Int), (v3 : Int), (v4 : Int), (v5 : Int), (v6 : Int), (v7 : Int), (v8 : Int), v9, (v10 : Int), v11, esF⟩) = true then (⟨(v1 : Int), (v2 : Int), (v3 : Int), (v4 : Int), (v5 : Int), (v6 : Int), (v7 : Int), (v8 : Int), v9, (v10 : Int), v11, esF⟩, 0) else (zm, 3) := by
    rw [hr]
    unfold decM okR
    rw [hall]
  exact DecM_walk A n c b w hs h hn s1 k1 v1 h1 l1 s2 k2 v2 h2 l2 s3 k3 v3 h3 l3 s4 k4 v4 h4 l4 s5 k5 v5 h5 l5 s6 k6 v6 h6 l6 s7 k7 v7 h7 l7 s8 k8 v8 h8 l8 s9 k9 v9 h9 s10 k10 v10 h10 l10 s11 k11 v11 h11 (by omega) v11.length rfl t11.1 s12 k12 cnt h12 (by omega) (rCount_le h12) sF kF okF esF ht m k hfin nd ne hnd hne

set_option maxHeartbeats 4000000 in
theorem Seal_m (m : Ms) (Ad : Option Addr) (nd cd : Nat) (Ae : Option Addr) (ne ce : Nat) (w : World) (hs : StdG w) (h : InM m Ad nd cd Ae ne ce w) (hnd : nd ≤ 10000) (hse : SmallE 200 25663 m.ents) (n : Nat) (hn : n = (sealM m).length) :
    Calls Tryz.prog 22 #[.agg #[.int .i64 m.kind, .int .i64 m.frm, .int .i64 m.to, .int .i64 m.term, .int .i64 m.index, .int .i64 m.logTerm, .int .i64 m.commit, .int .i64 m.round, .bool m.ok, .int .i64 m.off, .slice Ad nd cd, .slice Ae ne ce]] w fun y w' => ∃ A1 c1, y = .returned (.slice A1 n c1) ∧ Bys w' (.slice A1 n c1) (sealM m) ∧ Below w.heap.size w w' := by
  obtain ⟨W1, g, hW1, hg, hb1, hq, hsz⟩ := one_box w (.cells #[.int .i64 m.kind, .int .i64 m.frm, .int .i64 m.to, .int .i64 m.term, .int .i64 m.index, .int .i64 m.logTerm, .int .i64 m.commit, .int .i64 m.round, .bool m.ok, .int .i64 m.off, .slice Ad nd cd, .slice Ae ne ce] 30)
  have HW := Lib.hid (And.intro hW1 hg)
  have HE := Lib.hid hb1
  obtain ⟨z0, z1, z2, z3, z4, z5, z6, z7, z8, z9, z10, z11⟩ := cells12 hq
  obtain ⟨k, hk⟩ : ∃ k, k = (encM m).length := ⟨_, rfl⟩
  have CE := Lib.hid (Encode_m m Ad nd cd Ae ne ce W1 (hs.below hb1) (h.below hb1) hnd hse k hk)
  obtain ⟨e, he⟩ : ∃ e, e = sealE 109 (encM m) := ⟨_, rfl⟩
  have CS := Lib.hid fun A c W (hB : Bys W (.slice A k c) (encM m)) => Seal_any 109 A k c (encM m) W W.heap.size (Nat.le_refl _) hB.sl_
  rw [← he] at CS
  have e109 : (((109 : UInt8).toNat : Nat) : Int) = 109 := rfl
  simp only [e109] at CS
  have HN := Lib.hid hn
  have hcase : e = 0 ∨ (e ≠ 0 ∧ n = 0 ∧ sealM m = []) := by
    by_cases h0 : e = 0
    · exact Or.inl h0
    · have h1 : sealM m = [] := by unfold sealM sealB; rw [if_neg (by rw [← he]; exact h0)]
      exact Or.inr ⟨h0, by rw [hn, h1]; rfl, h1⟩
  clear hW1 hg hb1 hq hsz hs h hnd hse hn hk he e109
  rcases hcase with rfl | ⟨h0, rfl, h1⟩
  · rw [er_zero] at CS
    go_enter Tryz.func22, Tryz.ntmps22
    go_upto_region 1 with fail
    rw [← HW.out.1, ← HW.out.2]
    go_wp2_with (first
      | (go_at_call 16; go_must (refine CE.out.mono ?_; rintro y w1 ⟨A1, c1, rfl, hi, hb⟩; have H1 := Lib.hid (And.intro hi hb); clear hi hb))
      | (go_at_call 57; go_must (refine (CS.out A1 c1 w1 H1.out.1).mono ?_; rintro y w2 ⟨v, rfl, ho, hb⟩; have hI := Bys.of_own ho; obtain ⟨A2, c2, hv, -, -⟩ := hI.form; subst hv; have H2 := Lib.hid (And.intro hI hb); clear ho hI hb)))
    go_ret
    have hsl : (sealB 109 (encM m)).length = n := HN.out.symm
    have b1 := HE.out.trans (H1.out.2.mono HE.out.size)
    exact ⟨A2, c2, by rw [hsl]; rfl, by rw [← hsl]; exact H2.out.1, b1.trans (H2.out.2.mono b1.size)⟩
  · rw [er_ne h0] at CS
    have H0 := Lib.hid h1
    clear h1
    go_enter Tryz.func22, Tryz.ntmps22
    go_upto_region 1 with fail
    rw [← HW.out.1, ← HW.out.2]
    go_wp2_with (first
      | (go_at_call 16; go_must (refine CE.out.mono ?_; rintro y w1 ⟨A1, c1, rfl, hi, hb⟩; have H1 := Lib.hid (And.intro hi hb); clear hi hb))
      | (go_at_call 57; go_must (refine (CS.out A1 c1 w1 H1.out.1).mono ?_; rintro y w2 ⟨v, rfl, ho, hb⟩; have H2 := Lib.hid hb; clear ho hb)))
    go_ret
    have b1 := HE.out.trans (H1.out.2.mono HE.out.size)
    exact ⟨none, 0, rfl, by rw [H0.out]; exact Bys.nil_ _, b1.trans (H2.out.mono b1.size)⟩

set_option maxHeartbeats 8000000 in
theorem Open_m (A : Option Addr) (n c : Nat) (b : List UInt8) (w : World) (hs : StdP w) (h : Bys w (.slice A n c) b) (hn : n ≤ 140737488355328) (m : Ms) (k : Nat) (hr : (m, k) = openM b) (nd ne : Nat) (hnd : nd = m.data.length) (hne : ne = m.ents.length) :
    Calls Tryz.prog 20 #[.slice A n c] w fun y w' => ∃ Ad cd Ae ce, y = .returned (.tuple #[.agg #[.int .i64 m.kind, .int .i64 m.frm, .int .i64 m.to, .int .i64 m.term, .int .i64 m.index, .int .i64 m.logTerm, .int .i64 m.commit, .int .i64 m.round, .bool m.ok, .int .i64 m.off, .slice Ad nd cd, .slice Ae ne ce], er k]) ∧ InM m Ad nd cd Ae ne ce w' ∧ Below w.heap.size w w' := by
  obtain ⟨W0, g, hW0, hg, hb0, hz0, hsz⟩ := one_box w (.cells #[.int .i64 0, .int .i64 0, .int .i64 0, .int .i64 0, .int .i64 0, .int .i64 0, .int .i64 0, .int .i64 0, .bool false, .int .i64 0, .slice none 0 0, .slice none 0 0] 30)
  have hln := h.len_
  have HW := Lib.hid (And.intro hW0 hg)
  have HE := Lib.hid (And.intro hb0 (And.intro (show N12 W0 g (.int .i64 0) (.int .i64 0) (.int .i64 0) (.int .i64 0) (.int .i64 0) (.int .i64 0) (.int .i64 0) (.int .i64 0) (.bool false) (.int .i64 0) (.slice none 0 0) (.slice none 0 0) from hz0) hsz))
  have HS := Lib.hid fun W (hW : Below W0.heap.size W0 W) => (hs.more hb0).more hW
  obtain ⟨e, he⟩ : ∃ e, e = openE b := ⟨_, rfl⟩
  obtain ⟨kk, hkk⟩ : ∃ kk, kk = (openK b).toNat := ⟨_, rfl⟩
  have CO := Lib.hid (Open_any A n c b W0 W0.heap.size (Nat.le_refl _) ((h.below hb0).sl_))
  rw [← he, ← hkk] at CO
  have hxl : (openX b).length ≤ 140737488355328 := by
    unfold openX
    split
    · rw [List.length_drop, List.length_take]; omega
    · simp
  have CD := Lib.hid fun (hd : (m, k) = decM (openX b)) A2 n2 c2 W hS (hB : Bys W (.slice A2 n2 c2) (openX b)) => Decode_t A2 n2 c2 (openX b) W hS hB (by rw [hB.len_]; exact hxl) m k hd nd ne hnd hne
  have HN := Lib.hid (And.intro hnd hne)
  unfold openM at hr
  by_cases h1 : e = 0 ∧ kk = 109
  · have hk : openK b = 109 := by apply UInt8.toNat_inj.1; rw [← hkk, h1.2]; rfl
    rw [if_pos ⟨he ▸ h1.1, hk⟩] at hr
    have HR := Lib.hid hr
    obtain ⟨rfl, rfl⟩ := h1
    rw [er_zero] at CO
    have e109 : ((109 : Nat) : Int) = 109 := rfl
    rw [e109] at CO
    clear hr he hkk hk h hnd hne hn hln hs hxl hW0 hg hb0 hz0 hsz
    go_enter Tryz.func20, Tryz.ntmps20
    go_upto_region 1 with fail
    rw [← HW.out.1]
    try rw [← HW.out.2]
    go_wp2_with (first
      | (go_at_call 55; go_must (refine CO.out.mono ?_; rintro y w1 ⟨v, rfl, hS, hb⟩; obtain ⟨A2, c2, hv, hx1, hx2, hx3⟩ := id hS; subst hv; have H1 := Lib.hid (And.intro (Bys.of_sl hS) hb); clear hS hb hx1 hx2 hx3))
      | (go_at_call 11; go_must (refine (CD.out HR.out A2 _ c2 w1 (HS.out _ H1.out.2) H1.out.1).mono ?_; rintro y w2 ⟨Ad, cd, Ae, ce, rfl, hi, hb⟩; have TZ : N12 w2 g (.int .i64 0) (.int .i64 0) (.int .i64 0) (.int .i64 0) (.int .i64 0) (.int .i64 0) (.int .i64 0) (.int .i64 0) (.bool false) (.int .i64 0) (.slice none 0 0) (.slice none 0 0) := (HE.out.2.1.to (H1.out.2.block g HE.out.2.1.lt)).to (hb.block g (Nat.lt_of_lt_of_le HE.out.2.1.lt H1.out.2.size)); obtain ⟨z0, z1, z2, z3, z4, z5, z6, z7, z8, z9, z10, z11⟩ := cells12 TZ; have f0 := frozen_own TZ 0; have f1 := frozen_own TZ 1; have f2 := frozen_own TZ 2; have f3 := frozen_own TZ 3; have f4 := frozen_own TZ 4; have f5 := frozen_own TZ 5; have f6 := frozen_own TZ 6; have f7 := frozen_own TZ 7; have f8 := frozen_own TZ 8; have f9 := frozen_own TZ 9; have f10 := frozen_own TZ 10; have f11 := frozen_own TZ 11; have H2 := Lib.hid (And.intro TZ (And.intro hi hb)); clear TZ hi hb)))
    obtain ⟨F, hF, hE, hbQ, hoth, hsF⟩ := put12 H2.out.1 (.int .i64 m.kind) (.int .i64 m.frm) (.int .i64 m.to) (.int .i64 m.term) (.int .i64 m.index) (.int .i64 m.logTerm) (.int .i64 m.commit) (.int .i64 m.round) (.bool m.ok) (.int .i64 m.off) (.slice Ad nd cd) (.slice Ae ne ce)
    rw [← hF]
    clear hF z0 z1 z2 z3 z4 z5 z6 z7 z8 z9 z10 z11
    obtain ⟨z0, z1, z2, z3, z4, z5, z6, z7, z8, z9, z10, z11⟩ := cells12 hE
    have hgw := HW.out.2
    have hgs := HE.out.2.2
    have h1s := H1.out.2.size
    have hin := (H2.out.2.1.move (T' := fun q => q < F.heap.size) (w' := F) (fun q hq _ => hoth q (by have := hq.1; omega)) fun q hq => by rw [hsF]; exact hq.2).inM fun _ hq => hq
    exact bodyPost_ret (v := .tuple #[.agg #[.int .i64 m.kind, .int .i64 m.frm, .int .i64 m.to, .int .i64 m.term, .int .i64 m.index, .int .i64 m.logTerm, .int .i64 m.commit, .int .i64 m.round, .bool m.ok, .int .i64 m.off, .slice Ad nd cd, .slice Ae ne ce], er k]) (by simp [results, Tryz.results20, go_sem, z0, z1, z2, z3, z4, z5, z6, z7, z8, z9, z10, z11]) rfl ⟨Ad, cd, Ae, ce, rfl, hin, (HE.out.1.trans ((H1.out.2.trans (H2.out.2.2.mono H1.out.2.size)).mono HE.out.1.size)).trans (hbQ _ (by omega))⟩
  · have hz : (m, k) = (zm, 3) := by
      rw [hr, if_neg]
      rintro ⟨g1, g2⟩
      exact h1 ⟨he.trans g1, by rw [hkk, g2]; rfl⟩
    obtain ⟨rfl, rfl⟩ := Prod.mk.inj hz
    have h2 : e ≠ 0 ∨ (e = 0 ∧ ((kk : Int) != 109) = true) := by
      by_cases h3 : e = 0
      · exact Or.inr ⟨h3, by simp; omega⟩
      · exact Or.inl h3
    have nd0 : nd = 0 := hnd
    have ne0 : ne = 0 := hne
    subst nd0
    subst ne0
    clear hr he hkk h hnd hne hz h1 CD hn hln hs hxl hW0 hg hb0 hz0 hsz
    rcases h2 with h3 | ⟨rfl, h3⟩
    · rw [er_ne h3] at CO
      go_enter Tryz.func20, Tryz.ntmps20
      go_upto_region 1 with fail
      rw [← HW.out.1]
      try rw [← HW.out.2]
      go_wp2_with (go_at_call 55; go_must (refine CO.out.mono ?_; rintro y w1 ⟨v, rfl, hS, hb⟩; obtain ⟨A2, c2, hv, hx1, hx2, hx3⟩ := id hS; subst hv; have TZ : N12 w1 g (.int .i64 0) (.int .i64 0) (.int .i64 0) (.int .i64 0) (.int .i64 0) (.int .i64 0) (.int .i64 0) (.int .i64 0) (.bool false) (.int .i64 0) (.slice none 0 0) (.slice none 0 0) := HE.out.2.1.to (hb.block g HE.out.2.1.lt); obtain ⟨z0, z1, z2, z3, z4, z5, z6, z7, z8, z9, z10, z11⟩ := cells12 TZ; have f0 := frozen_own TZ 0; have f1 := frozen_own TZ 1; have f2 := frozen_own TZ 2; have f3 := frozen_own TZ 3; have f4 := frozen_own TZ 4; have f5 := frozen_own TZ 5; have f6 := frozen_own TZ 6; have f7 := frozen_own TZ 7; have f8 := frozen_own TZ 8; have f9 := frozen_own TZ 9; have f10 := frozen_own TZ 10; have f11 := frozen_own TZ 11; have H1 := Lib.hid (And.intro TZ hb); clear TZ hS hb hx1 hx2 hx3))
      obtain ⟨F, hF, hE, hbQ, hoth, hsF⟩ := put12 H1.out.1 (.int .i64 0) (.int .i64 0) (.int .i64 0) (.int .i64 0) (.int .i64 0) (.int .i64 0) (.int .i64 0) (.int .i64 0) (.bool false) (.int .i64 0) (.slice none 0 0) (.slice none 0 0)
      rw [← hF]
      clear hF z0 z1 z2 z3 z4 z5 z6 z7 z8 z9 z10 z11
      obtain ⟨z0, z1, z2, z3, z4, z5, z6, z7, z8, z9, z10, z11⟩ := cells12 hE
      have hgw := HW.out.2
      exact bodyPost_ret (v := .tuple #[.agg #[.int .i64 0, .int .i64 0, .int .i64 0, .int .i64 0, .int .i64 0, .int .i64 0, .int .i64 0, .int .i64 0, .bool false, .int .i64 0, .slice none 0 0, .slice none 0 0], .iface 60 (.int .i64 3)]) (by simp [results, Tryz.results20, go_sem, z0, z1, z2, z3, z4, z5, z6, z7, z8, z9, z10, z11]) rfl ⟨none, 0, none, 0, rfl, ⟨Bys.nil_ _, Ents.nil_ _, by unfold zm inI; decide⟩, (HE.out.1.trans (H1.out.2.mono HE.out.1.size)).trans (hbQ _ (by omega))⟩
    · rw [er_zero] at CO
      go_enter Tryz.func20, Tryz.ntmps20
      go_upto_region 1 with fail
      rw [← HW.out.1]
      try rw [← HW.out.2]
      go_wp2_with (go_at_call 55; go_must (refine CO.out.mono ?_; rintro y w1 ⟨v, rfl, hS, hb⟩; obtain ⟨A2, c2, hv, hx1, hx2, hx3⟩ := id hS; subst hv; have TZ : N12 w1 g (.int .i64 0) (.int .i64 0) (.int .i64 0) (.int .i64 0) (.int .i64 0) (.int .i64 0) (.int .i64 0) (.int .i64 0) (.bool false) (.int .i64 0) (.slice none 0 0) (.slice none 0 0) := HE.out.2.1.to (hb.block g HE.out.2.1.lt); obtain ⟨z0, z1, z2, z3, z4, z5, z6, z7, z8, z9, z10, z11⟩ := cells12 TZ; have f0 := frozen_own TZ 0; have f1 := frozen_own TZ 1; have f2 := frozen_own TZ 2; have f3 := frozen_own TZ 3; have f4 := frozen_own TZ 4; have f5 := frozen_own TZ 5; have f6 := frozen_own TZ 6; have f7 := frozen_own TZ 7; have f8 := frozen_own TZ 8; have f9 := frozen_own TZ 9; have f10 := frozen_own TZ 10; have f11 := frozen_own TZ 11; have H1 := Lib.hid (And.intro TZ hb); clear TZ hS hb hx1 hx2 hx3))
      obtain ⟨F, hF, hE, hbQ, hoth, hsF⟩ := put12 H1.out.1 (.int .i64 0) (.int .i64 0) (.int .i64 0) (.int .i64 0) (.int .i64 0) (.int .i64 0) (.int .i64 0) (.int .i64 0) (.bool false) (.int .i64 0) (.slice none 0 0) (.slice none 0 0)
      rw [← hF]
      clear hF z0 z1 z2 z3 z4 z5 z6 z7 z8 z9 z10 z11
      obtain ⟨z0, z1, z2, z3, z4, z5, z6, z7, z8, z9, z10, z11⟩ := cells12 hE
      have hgw := HW.out.2
      exact bodyPost_ret (v := .tuple #[.agg #[.int .i64 0, .int .i64 0, .int .i64 0, .int .i64 0, .int .i64 0, .int .i64 0, .int .i64 0, .int .i64 0, .bool false, .int .i64 0, .slice none 0 0, .slice none 0 0], .iface 60 (.int .i64 3)]) (by simp [results, Tryz.results20, go_sem, z0, z1, z2, z3, z4, z5, z6, z7, z8, z9, z10, z11]) rfl ⟨none, 0, none, 0, rfl, ⟨Bys.nil_ _, Ents.nil_ _, by unfold zm inI; decide⟩, (HE.out.1.trans (H1.out.2.mono HE.out.1.size)).trans (hbQ _ (by omega))⟩

theorem StdP.g {w : World} (h : StdP w) : StdG w := ⟨h.tab, h.std.size⟩
theorem conM : ConM where
  mCheck m Ad nd cd Ae ne ce w hs h hn hse k hk := Check_any m Ad nd cd Ae ne ce w hs h ⟨by have := hse.1; omega, hse.2⟩ k hk
  mEncode m Ad nd cd Ae ne ce w hs h hn hse n hn2 := Encode_m m Ad nd cd Ae ne ce w hs.g h hn hse n hn2
  mSeal m Ad nd cd Ae ne ce w hs h hn hse n hn2 := Seal_m m Ad nd cd Ae ne ce w hs.g h hn hse n hn2
  mDecode A n c b w hs h hn m k hr nd ne hnd hne := (Decode_t A n c b w hs h hn m k hr nd ne hnd hne).mono fun y w' ⟨Ad, cd, Ae, ce, hy, hi, hb⟩ => ⟨Ad, cd, Ae, ce, hy, hi.inM fun _ hq => hq.2, hb⟩
  mOpen A n c b w hs h hn m k hr nd ne hnd hne := Open_m A n c b w hs h hn m k hr nd ne hnd hne

end Go.Proofs.YtfblgkcipnkhaaaGreatDoor.pk

/-
  From a row's reading to the walks' words: a slice of bytes, and what a law that answers true leaves.
-/
namespace Go.Proofs.YtfblgkcipnkhaaaGreatDoor.pk
open Go Go.RowKit Go.ChangeShapes Go.WideShapes Go.ChangeAt
set_option maxRecDepth 100000

theorem own : ownKnob Tryz.prog.godebug = none := by kernel_rfl

theorem laid_one {P : Program} {x : String × DataW Unit} {r : List (String × DataW Unit)} {w : World} (h : laidMet P (x :: r) w) : laidMet P [x] w := by
  obtain ⟨ps, ⟨g, t, cs, fuel, p, q, h1, h2, h3, h4, _, rfl⟩, hnd, hr⟩ := h
  refine ⟨MemPlace.row ⟨g, 0, none⟩ cs.size ++ p ++ [], ⟨g, t, cs, fuel, p, [], h1, h2, h3, h4, rfl, rfl⟩, ?_, fun b off hm => hr b off ?_⟩
  · rw [List.append_nil]; exact List.Nodup.sublist (List.sublist_append_left _ _) hnd
  · rw [List.append_nil] at hm; exact List.mem_append_left _ hm
theorem laid_mem {P : Program} {x : String × DataW Unit} {w : World} : ∀ {l : List (String × DataW Unit)}, laidMet P l w → x ∈ l → laidMet P [x] w
  | [], _, hx => by cases hx
  | y :: r, h, hx => by
    rcases List.mem_cons.1 hx with rfl | hx
    · exact laid_one h
    · exact laid_mem h.tail hx

theorem cU8 : Tryz.prog.cellsOf 5 = 1 := by kernel_rfl

/-- A slice of bytes that is read: its bytes, and that they are no more than what was weighed. -/
theorem sl_of_trod {H : Type} {enc : TypeId × Value → H} {W : World} {held : Bool} {fuel : Nat} {v : Value} {y : DataW H × List MemPlace}
    (h : DataW.trod enc Tryz.prog W 0 (fun _ => true) held fuel 22 [v] = some y) :
    ∃ A n c bs, v = .slice A n c ∧ Sl W W.heap.size (.slice A n c) bs ∧ ((y.1 = .nil ∧ bs = []) ∨ ∃ es sp, y.1 = .slice es sp ∧ es.length = bs.length) := by
  rcases open_ints Tryz.underlying22 Tryz.underlying5 cU8 h with ⟨hcs, hx⟩ | ⟨a, len, cap, zs, hcs, _, hl, hm, hz, hx, hcell, hwz⟩
  · simp only [List.cons.injEq, and_true] at hcs
    subst hcs
    exact ⟨none, 0, 0, [], rfl, Sl.nil_ _ _, Or.inl ⟨by rw [hx], rfl⟩⟩
  · simp only [List.cons.injEq, and_true] at hcs
    subst hcs
    have hzl : len ≤ zs.length := by
      rw [hz]
      exact hl
    have hlen : ((zs.take len).map fun z => UInt8.ofNat z.toNat).length = len := by rw [List.length_map, List.length_take]; omega
    refine ⟨some a, len, cap, (zs.take len).map fun z => UInt8.ofNat z.toNat, rfl, ⟨some a, cap, by rw [hlen], by rw [hlen]; exact hl, by simp only [maxLen] at hm; omega, ?_⟩, Or.inr ⟨_, _, by rw [hx], ?_⟩⟩
    · by_cases h0 : len = 0
      · left
        exact List.eq_nil_of_length_eq_zero (by rw [hlen]; exact h0)
      · right
        obtain ⟨b, off, rfl, hc⟩ := ints_at hcell (by omega)
        have hb : b < W.heap.size := World.block_lt_of_cell? W ⟨b, off + 0, none⟩ (hc 0 (by omega))
        refine ⟨b, off, rfl, hb, fun j hj => ?_⟩
        rw [hlen] at hj
        rw [hc j (by omega)]
        have hmem : zs[j]'(by omega) ∈ zs := List.getElem_mem _
        have hw := hwz _ hmem
        have hr := bounds_u8 hw
        simp [List.getD, List.getElem?_eq_getElem (show j < zs.length by omega), hj]
        omega
    · rw [hlen]
      simp [lits, List.length_take]
      omega


theorem laidOut : laidOutB Tryz.prog = true := by kernel_rfl

/-- The arguments read behind the call as they read before. -/
theorem trodAll_below {P : Program} (hl : laidOutB P = true) {H : Type} {enc : TypeId × Value → H} {W W' : World} (hb : Below W.heap.size W W') : ∀ {ts : List TypeId} {vs : List Value} {ds : List (DataW H)} {p : List MemPlace},
    (ts.all fun t => P.readableRec t && decide (t < P.types.size)) = true → DataW.TrodAll enc P W 0 (fun _ => true) true ts vs ds p → (∀ x ∈ p, x.block < W.heap.size) →
    DataW.TrodAll enc P W' 0 (fun b => decide (b < W.heap.size)) true ts vs ds p
  | [], vs, ds, p, _, h, _ => by
    obtain ⟨rfl, rfl, rfl⟩ := trodAll_nil h
    exact trodAll_mk0
  | t :: ts, vs, ds, p, ht, h, hlt => by
    obtain ⟨v0, vs0, d0, ds0, p0, q0, rfl, rfl, rfl, h0, r0⟩ := trodAll_cons h
    rw [List.all_cons, Bool.and_eq_true, Bool.and_eq_true] at ht
    exact trodAll_cons_mk (Below.trod hl ht.1.1 (of_decide_eq_true ht.1.2) h0 hb (fun x hx => hlt x (List.mem_append_left _ hx))) (trodAll_below hl hb ht.2 r0 (fun x hx => hlt x (List.mem_append_right _ hx)))

/-- WHAT A LAW THAT ANSWERS TRUE LEAVES, where nothing that was there has changed. -/
theorem law_post {H : Type} {enc : TypeId × Value → H} {f : Func} {s : ChangeSpec} {W W' : World} {args : Array Value} {ds gs : List (DataW H)} {before : List MemPlace} (hv : s.vars = []) (hres : f.resultTypes = #[4])
    (hfn : s.fn H (ds ++ gs) = { results := [.lit (.bool true)], args := ds }) (hts : (f.params.toList.all fun t => Tryz.prog.readableRec t && decide (t < Tryz.prog.types.size)) = true)
    (hW : DataW.Whole enc Tryz.prog f.params.toList s.vars false W args.toList ds gs before) (hb : Below W.heap.size W W') : s.post enc Tryz.prog f false true false false W args (.bool true) W' := by
  have hlt : ∀ x ∈ before, x.block < W.heap.size := fun x hx => hW.lt x hx
  obtain ⟨p, q, hA, hV, hpq, hfz, hnd⟩ := hW
  have hV0 := hV
  rw [hv] at hV
  obtain ⟨hg, hq⟩ := trodVars_none hV
  subst hg; subst hq
  rw [List.append_nil] at hpq
  subst hpq
  refine ⟨ds, [], before, [], before, [], ⟨before, [], hA, hV0, by simp, hfz, hnd⟩, ?_, ?_, ?_, hb.frame _, fun h => by cases h⟩
  · rw [hfn, hres]
    exact trodAll_cons_mk (shut_bool Tryz.underlying4 true) trodAll_mk0
  · rw [hfn]
    exact trodAll_below laidOut hb hts hA hlt
  · rw [hfn, hv]
    rfl

/-- A byte as the walks have it. -/
theorem byte_of {a : Int} (h : (Lit.int .u8 a).wf = true) : ∃ c : UInt8, a = (c.toNat : Int) := by
  have hb := bounds_u8 h
  exact ⟨UInt8.ofNat a.toNat, by simp; omega⟩

end Go.Proofs.YtfblgkcipnkhaaaGreatDoor.pk

/-
  From a row's reading to the walks' words: a slice of any elements, of numbers, of truths, of slices of bytes; what the bound gives.
-/
namespace Go.Proofs.YtfblgkcipnkhaaaGreatDoor.pk
open Go Go.RowKit Go.ChangeShapes Go.WideShapes Go.ChangeAt
set_option maxRecDepth 100000

/-- A slice of any elements that is read: its cells, and each element's own reading. -/
theorem row_of_trod {H : Type} {enc : TypeId × Value → H} {W : World} {held : Bool} {fuel : Nat} {v : Value} {y : DataW H × List MemPlace} {t e : TypeId} {sz : Nat}
    (ht : Tryz.prog.underlying t = some (.slice e)) (hs : Tryz.prog.cellsOf e = sz) (hs0 : 0 < sz) (h : DataW.trod enc Tryz.prog W 0 (fun _ => true) held fuel t [v] = some y) :
    ∃ A n c cs, v = .slice A n c ∧ RowT W (fun k => k < W.heap.size) sz (.slice A n c) n cs ∧
      ((y.1 = .nil ∧ n = 0) ∨ ∃ es sp, y.1 = .slice es sp ∧ es.length = n ∧ ∀ i, i < n → ∃ m z, DataW.trod enc Tryz.prog W 0 (fun _ => true) held m e ((cs.drop (i * sz)).take sz) = some z ∧ es[i]? = some z.1) := by
  rcases DataW.trod_slice ht h with ⟨hcs, hx⟩ | ⟨a, len, cap, elems, rest, n, _, hcs, hx, _, hlc, hcm, hel, hget, _, _⟩
  · simp only [List.cons.injEq, and_true] at hcs
    subst hcs
    exact ⟨none, 0, 0, [], rfl, RowT.nil_ _ _ _, Or.inl ⟨by rw [hx], rfl⟩⟩
  · simp only [List.cons.injEq, and_true] at hcs
    subst hcs
    rw [hs] at hget
    have hcm' : cap ≤ 9223372036854775807 := by simp only [maxLen] at hcm; omega
    have hrow : ∀ i, i < len → ∃ ws z, elems[i]? = some z ∧ ws.length = sz ∧ (∀ r, r < sz → W.cell? ((a.add (i * sz)).add r) = ws[r]?) ∧ DataW.trod enc Tryz.prog W 0 (fun _ => true) held n e ws = some z := by
      intro i hi
      have hg := hget i hi
      have hz : elems[i]? = some (elems[i]'(by omega)) := List.getElem?_eq_getElem (by omega)
      rw [hz, Option.bind_eq_some_iff] at hg
      obtain ⟨ws, hw, htr⟩ := hg
      obtain ⟨_, hwl, hcell⟩ := World.cells?_some hw
      exact ⟨ws, _, hz, hwl, hcell, htr⟩
    by_cases h0 : len = 0
    · subst h0
      exact ⟨some a, 0, cap, [], rfl, ⟨by simp, some a, cap, rfl, hlc, hcm', Or.inl rfl⟩, Or.inr ⟨_, _, by rw [hx], by rw [List.length_map]; exact hel, fun i hi => by omega⟩⟩
    obtain ⟨b, off, spot⟩ := a
    have hspot : spot = none := by
      obtain ⟨ws, z, _, hwl, hc, _⟩ := hrow 0 (by omega)
      have h1 := hc 0 (by omega)
      rw [List.getElem?_eq_getElem (by omega)] at h1
      simpa [Addr.add] using World.cell?_spot h1
    subst hspot
    simp only [Lib.add_plain] at hrow
    have hb : b < W.heap.size := by
      obtain ⟨ws, z, _, hwl, hc, _⟩ := hrow 0 (by omega)
      have h1 := hc 0 (by omega)
      rw [List.getElem?_eq_getElem (by omega)] at h1
      exact World.block_lt_of_cell? W ⟨b, off + 0 * sz + 0, none⟩ h1
    have hcell : ∀ j, j < len * sz → ∃ u, W.cell? ⟨b, off + j, none⟩ = some u := by
      intro j hj
      obtain ⟨ws, z, _, hwl, hc, _⟩ := hrow (j / sz) (Nat.div_lt_of_lt_mul (by rw [Nat.mul_comm]; exact hj))
      have h1 := hc (j % sz) (Nat.mod_lt _ hs0)
      rw [List.getElem?_eq_getElem (by rw [hwl]; exact Nat.mod_lt _ hs0), Nat.add_assoc, Nat.mul_comm (j / sz) sz, Nat.div_add_mod] at h1
      exact ⟨_, h1⟩
    have hcs : ∀ j, j < len * sz → ((List.range (len * sz)).map fun j => (W.cell? ⟨b, off + j, none⟩).getD .nilIface)[j]? = W.cell? ⟨b, off + j, none⟩ := by
      intro j hj
      obtain ⟨u, hu⟩ := hcell j hj
      rw [List.getElem?_map, List.getElem?_range hj]
      simp [hu]
    refine ⟨some ⟨b, off, none⟩, len, cap, (List.range (len * sz)).map fun j => (W.cell? ⟨b, off + j, none⟩).getD .nilIface, rfl, ⟨by simp, some ⟨b, off, none⟩, cap, rfl, hlc, hcm', Or.inr ⟨b, off, rfl, hb, fun j u hj => ?_⟩⟩, Or.inr ⟨_, _, by rw [hx], by rw [List.length_map]; exact hel, fun i hi => ?_⟩⟩
    · have hlt : j < len * sz := by
        have := (List.getElem?_eq_some_iff.1 hj).1
        simpa using this
      rw [hcs j hlt] at hj
      exact hj
    · obtain ⟨ws, z, hz, hwl, hc, htr⟩ := hrow i hi
      have hle : i * sz + sz ≤ len * sz := by
        have := Nat.mul_le_mul_right sz (show i + 1 ≤ len from hi)
        rw [Nat.add_mul, Nat.one_mul] at this
        exact this
      refine ⟨n, z, ?_, by rw [List.getElem?_map, hz]; rfl⟩
      rw [← htr]
      congr 1
      refine List.ext_getElem? fun r => ?_
      rw [List.getElem?_take]
      by_cases hr : r < sz
      · rw [if_pos hr, List.getElem?_drop, hcs _ (by omega), ← hc r hr, Nat.add_assoc]
      · rw [if_neg hr, List.getElem?_eq_none (by omega)]

theorem cI64 : Tryz.prog.cellsOf 3 = 1 := by kernel_rfl
theorem take_one {cs : List Value} {i : Nat} {u : Value} (h : (cs.drop (i * 1)).take 1 = [u]) : cs[i]? = some u := by
  have h1 : ((cs.drop (i * 1)).take 1)[0]? = some u := by rw [h]; rfl
  rw [List.getElem?_take, if_pos (by omega), List.getElem?_drop] at h1
  simpa using h1
theorem inI_of {n : Int} (h : (Lit.int .i64 n).wf = true) : inI n := bounds_i64 h

/-- Numbers that are read. -/
theorem ints_of_trod {H : Type} {enc : TypeId × Value → H} {W : World} {held : Bool} {fuel : Nat} {v : Value} {y : DataW H × List MemPlace}
    (h : DataW.trod enc Tryz.prog W 0 (fun _ => true) held fuel 124 [v] = some y) :
    ∃ A c zs, v = .slice A zs.length c ∧ IntsT W (fun k => k < W.heap.size) (.slice A zs.length c) zs ∧ (∀ z ∈ zs, inI z) ∧ ((y.1 = .nil ∧ zs = []) ∨ ∃ es sp, y.1 = .slice es sp ∧ es.length = zs.length) := by
  obtain ⟨A, n, c, cs, rfl, hr, hd⟩ := row_of_trod Tryz.underlying124 cI64 (by omega) h
  rcases hd with ⟨hy, rfl⟩ | ⟨es, sp, hy, hl, he⟩
  · have hc0 : cs = [] := List.eq_nil_of_length_eq_zero (by have := hr.1; omega)
    subst hc0
    exact ⟨A, c, [], rfl, hr, (fun z hz => by cases hz), Or.inl ⟨hy, rfl⟩⟩
  · have hone : ∀ i : Fin n, ∃ z : Int, cs[i.1]? = some (.int .i64 z) ∧ inI z := fun ⟨i, hi⟩ => by
      obtain ⟨m, z, htr, _⟩ := he i hi
      obtain ⟨k, e0, _, wk⟩ := DataW.trod_int Tryz.underlying3 htr
      exact ⟨k, take_one e0, inI_of wk⟩
    obtain ⟨f, hf⟩ := Classical.axiomOfChoice hone
    have hcs : cs = (List.ofFn f).map (Value.int .i64) := by
      refine List.ext_getElem? fun j => ?_
      by_cases hj : j < n
      · rw [(hf ⟨j, hj⟩).1, List.getElem?_map, List.getElem?_eq_getElem (by simpa using hj), List.getElem_ofFn]
        rfl
      · have := hr.1
        rw [List.getElem?_eq_none (by omega), List.getElem?_eq_none (by simp; omega)]
    have hln : (List.ofFn f).length = n := List.length_ofFn ..
    refine ⟨A, c, List.ofFn f, by rw [hln], ?_, fun z hz => ?_, Or.inr ⟨es, sp, hy, by rw [hln]; exact hl⟩⟩
    · unfold IntsT
      rw [hln, ← hcs]
      exact hr
    · obtain ⟨i, rfl⟩ := List.mem_ofFn.1 hz
      exact (hf i).2
theorem bInt : Tryz.prog.bytesOf 3 = 8 := by kernel_rfl

theorem keep_bound {H : Type} {d : DataW H} {zs : List Int} (hd : (d = .nil ∧ zs = []) ∨ ∃ es sp, d = .slice es sp ∧ es.length = zs.length) (hz : ∀ n ∈ d.weights Tryz.prog 124, n ≤ reachBytes) : zs.length * 8 ≤ 140737488355328 := by
  rcases hd with ⟨_, rfl⟩ | ⟨es, sp, rfl, hl⟩
  · simp
  · have := hz ((es.length + sp.length) * 8) (by simp [DataW.weights, Tryz.underlying124, bInt])
    simp only [reachBytes] at this
    omega

end Go.Proofs.YtfblgkcipnkhaaaGreatDoor.pk

/-
  What the row's list gives the walks.
-/
namespace Go.Proofs.YtfblgkcipnkhaaaGreatDoor.pk
open Go Go.RowKit Go.ChangeShapes Go.WideShapes Go.ChangeAt
set_option maxRecDepth 100000

theorem gTyp : Tryz.prog.globalNamed "errors.errorType" = some 0 := by kernel_rfl
theorem rType : (Tryz.prog.cutTypes.find? (·.1 == "internal/reflectlite.rtype")).map (·.2) = some 153 := by kernel_rfl
theorem tSize : Tryz.prog.types.size = 229 := by kernel_rfl
theorem oneRow : ((List.range 229).filter fun t => Tryz.prog.rowNamed t [101, 114, 114, 111, 114]) = [32] := by kernel_rfl
theorem lastVar : (((begin Tryz.prog (fun _ _ => 0) default).world.heap[6 - 1]?).bind Obj.row?).isSome = true := by kernel_rfl
theorem gSize : Tryz.prog.globals.size = 6 := by kernel_rfl

/-- WHAT THE ROW's LIST GIVES THE WALKS. -/
theorem std_of {W : World} (h : laidMetH Tryz.prog [("errors.errorType", Rows.laid_errors_errorType)] W) (hsh : W.ShapedOpen Tryz.prog) : Std W := by
  have h' : laidMet Tryz.prog ([("errors.errorType", Rows.laid_errors_errorType)].filter fun x => x.2.handleName?.isNone) W ∧ handlesMet Tryz.prog [("errors.errorType", Rows.laid_errors_errorType)] W := h
  obtain ⟨_, hh⟩ := h'
  obtain ⟨name, u, ty, e1, e2, e3, e4, e5⟩ := hh _ (List.mem_singleton.2 rfl)
  have en : name = [101, 114, 114, 111, 114] := (Option.some.inj e1).symm
  subst en
  obtain rfl := Option.some.inj (rType.symm.trans e2)
  have hm : ty ∈ (List.range 229).filter fun t => Tryz.prog.rowNamed t [101, 114, 114, 111, 114] := List.mem_filter.2 ⟨List.mem_range.2 (by rw [← tSize]; exact e3), e4⟩
  rw [oneRow] at hm
  obtain rfl := List.mem_singleton.1 hm
  have hth : typeHandle Tryz.prog 32 = .pointer (some ⟨6, 32, none⟩) := by kernel_rfl
  rw [hth] at e5
  refine ⟨by simpa using World.var?_cell gTyp e5 0, ?_⟩
  cases hx : ((begin Tryz.prog (fun _ _ => 0) default).world.heap[6 - 1]?).bind Obj.row? with
  | none => have hl := lastVar; rw [hx] at hl; cases hl
  | some zt =>
    obtain ⟨z, t⟩ := zt
    obtain ⟨cs, hc, _⟩ := hsh.1 (6 - 1) z t (by rw [gSize]; omega) hx
    rcases Nat.lt_or_ge (6 - 1) W.heap.size with hlt | hge
    · omega
    · rw [Array.getElem?_eq_none hge] at hc; cases hc

end Go.Proofs.YtfblgkcipnkhaaaGreatDoor.pk

/-
  What the row's list gives the walks, where it lists more than the error's own type.
-/
namespace Go.Proofs.YtfblgkcipnkhaaaGreatDoor.pk
open Go Go.RowKit Go.ChangeShapes Go.WideShapes Go.ChangeAt
set_option maxRecDepth 100000

theorem std_in {l : List (String × DataW Unit)} {W : World} (hf : (l.filter fun x => x.2.handleName?.isSome) = [("errors.errorType", Rows.laid_errors_errorType)]) (h : laidMetH Tryz.prog l W) (hsh : W.ShapedOpen Tryz.prog) : Std W := by
  refine std_of ?_ hsh
  unfold laidMetH at h
  rw [hf] at h
  exact ⟨laidMet_nil _ _, h.2⟩

theorem tTab : (Tryz.prog.globals[1]?).map (·.type) = some 179 := by kernel_rfl
theorem tSyn : (Tryz.prog.globals[4]?).map (·.type) = some 32 := by kernel_rfl
theorem tRng : (Tryz.prog.globals[5]?).map (·.type) = some 32 := by kernel_rfl
theorem c20 : Tryz.prog.cellsOf 179 = 20 := by kernel_rfl
theorem c1 : Tryz.prog.cellsOf 51 = 1 := by kernel_rfl
theorem cES : Tryz.prog.cellsOf 199 = 1 := by kernel_rfl
theorem cSt : Tryz.prog.cellsOf 9 = 1 := by kernel_rfl
theorem starES : "*" ++ "errors.errorString" = "*errors.errorString" := by decide
theorem nameES (u : TypeId) (h : Tryz.prog.typeName? 3 u = some "*errors.errorString") : u = 197 :=
  typeName_ptr_named (nm := "errors.errorString") (by rw [starES]; kernel_rfl) (by kernel_rfl) (by decide) u (by rw [starES]; exact h)

theorem stdP_in {l : List (String × DataW Unit)} {W : World} (hf : (l.filter fun x => x.2.handleName?.isSome) = [("errors.errorType", Rows.laid_errors_errorType)])
    (h1 : ("internal/strconv.uint64pow10", Rows.laid_internal_strconv_uint64pow10) ∈ l.filter fun x => x.2.handleName?.isNone)
    (h2 : ("strconv.ErrSyntax", Rows.laid_strconv_ErrSyntax) ∈ l.filter fun x => x.2.handleName?.isNone)
    (h3 : ("strconv.ErrRange", Rows.laid_strconv_ErrRange) ∈ l.filter fun x => x.2.handleName?.isNone)
    (h : laidMetH Tryz.prog l W) (hsh : W.ShapedOpen Tryz.prog) : StdP W := by
  have h' := h
  unfold laidMetH at h'
  rw [hf] at h'
  have hd := h'.1
  have t1 : Lib.TabIs Tryz.prog W "internal/strconv.uint64pow10" .u64 Lib.pow10Tab :=
    Lib.tabIs_of_head (rest := []) gTab tTab Tryz.underlying179 Tryz.underlying51 c1 c20 (laid_mem hd h1)
  obtain ⟨a2, s2, g2, _⟩ := laid_sentinel (r := []) (laid_mem hd h2) gSyn tSyn Tryz.underlying32 nameES Tryz.underlying197 Tryz.underlying199 rfl rfl Tryz.underlying9 cES cSt
  obtain ⟨a3, s3, g3, _⟩ := laid_sentinel (r := []) (laid_mem hd h3) gRng tRng Tryz.underlying32 nameES Tryz.underlying197 Tryz.underlying199 rfl rfl Tryz.underlying9 cES cSt
  exact ⟨std_in hf h hsh, t1, ⟨_, _, g2⟩, ⟨_, _, g3⟩⟩

end Go.Proofs.YtfblgkcipnkhaaaGreatDoor.pk

/-
  A message that is read.
-/
namespace Go.Proofs.YtfblgkcipnkhaaaGreatDoor.pk
open Go Go.RowKit Go.ChangeShapes Go.WideShapes Go.ChangeAt
set_option maxRecDepth 100000

section
variable {H : Type} {enc : TypeId × Value → H} {P : Program} {w : World} {base : Nat} {spare : Nat → Bool} {held : Bool}
theorem trod_structE4 {t : TypeId} {f0 f1 f2 f3 : Field} {fuel : Nat} {cs : List Value} {x : DataW H × List MemPlace} (ht : P.underlying t = some (.struct #[f0, f1, f2, f3])) (h : DataW.trod enc P w base spare held fuel t cs = some x) :
    ∃ y0 y1 y2 y3 n, x.1 = .agg [y0.1, y1.1, y2.1, y3.1] ∧ DataW.trod enc P w base spare held n f0.type ((cs.drop f0.offset).take (P.cellsOf f0.type)) = some y0 ∧
      DataW.trod enc P w base spare held n f1.type ((cs.drop f1.offset).take (P.cellsOf f1.type)) = some y1 ∧ DataW.trod enc P w base spare held n f2.type ((cs.drop f2.offset).take (P.cellsOf f2.type)) = some y2 ∧
      DataW.trod enc P w base spare held n f3.type ((cs.drop f3.offset).take (P.cellsOf f3.type)) = some y3 := by
  obtain ⟨xs, n, _, rfl, hl, hlen, hf⟩ := DataW.trod_struct ht h
  match xs, hlen with
  | [y0, y1, y2, y3], _ => exact ⟨y0, y1, y2, y3, n, by simp, by simpa using hf 0 f0 rfl, by simpa using hf 1 f1 rfl, by simpa using hf 2 f2 rfl, by simpa using hf 3 f3 rfl⟩
theorem trod_structE12 {t : TypeId} {f0 f1 f2 f3 f4 f5 f6 f7 f8 f9 f10 f11 : Field} {fuel : Nat} {cs : List Value} {x : DataW H × List MemPlace} (ht : P.underlying t = some (.struct #[f0, f1, f2, f3, f4, f5, f6, f7, f8, f9, f10, f11])) (h : DataW.trod enc P w base spare held fuel t cs = some x) :
    ∃ y0 y1 y2 y3 y4 y5 y6 y7 y8 y9 y10 y11 n, x.1 = .agg [y0.1, y1.1, y2.1, y3.1, y4.1, y5.1, y6.1, y7.1, y8.1, y9.1, y10.1, y11.1] ∧ DataW.trod enc P w base spare held n f0.type ((cs.drop f0.offset).take (P.cellsOf f0.type)) = some y0 ∧ DataW.trod enc P w base spare held n f1.type ((cs.drop f1.offset).take (P.cellsOf f1.type)) = some y1 ∧ DataW.trod enc P w base spare held n f2.type ((cs.drop f2.offset).take (P.cellsOf f2.type)) = some y2 ∧ DataW.trod enc P w base spare held n f3.type ((cs.drop f3.offset).take (P.cellsOf f3.type)) = some y3 ∧ DataW.trod enc P w base spare held n f4.type ((cs.drop f4.offset).take (P.cellsOf f4.type)) = some y4 ∧ DataW.trod enc P w base spare held n f5.type ((cs.drop f5.offset).take (P.cellsOf f5.type)) = some y5 ∧ DataW.trod enc P w base spare held n f6.type ((cs.drop f6.offset).take (P.cellsOf f6.type)) = some y6 ∧ DataW.trod enc P w base spare held n f7.type ((cs.drop f7.offset).take (P.cellsOf f7.type)) = some y7 ∧ DataW.trod enc P w base spare held n f8.type ((cs.drop f8.offset).take (P.cellsOf f8.type)) = some y8 ∧ DataW.trod enc P w base spare held n f9.type ((cs.drop f9.offset).take (P.cellsOf f9.type)) = some y9 ∧ DataW.trod enc P w base spare held n f10.type ((cs.drop f10.offset).take (P.cellsOf f10.type)) = some y10 ∧ DataW.trod enc P w base spare held n f11.type ((cs.drop f11.offset).take (P.cellsOf f11.type)) = some y11 := by
  obtain ⟨xs, n, _, rfl, hl, hlen, hf⟩ := DataW.trod_struct ht h
  match xs, hlen with
  | [y0, y1, y2, y3, y4, y5, y6, y7, y8, y9, y10, y11], _ => exact ⟨y0, y1, y2, y3, y4, y5, y6, y7, y8, y9, y10, y11, n, by simp, by simpa using hf 0 f0 rfl, by simpa using hf 1 f1 rfl, by simpa using hf 2 f2 rfl, by simpa using hf 3 f3 rfl, by simpa using hf 4 f4 rfl, by simpa using hf 5 f5 rfl, by simpa using hf 6 f6 rfl, by simpa using hf 7 f7 rfl, by simpa using hf 8 f8 rfl, by simpa using hf 9 f9 rfl, by simpa using hf 10 f10 rfl, by simpa using hf 11 f11 rfl⟩
theorem weightsAll_in {e : TypeId} : ∀ {l : List (DataW H)} {d : DataW H}, d ∈ l → ∀ n ∈ d.weights P e, n ∈ DataW.weightsAll P e l
  | x :: r, d, hd, n, hn => by
    unfold DataW.weightsAll
    rcases List.mem_cons.1 hd with rfl | hd
    · exact List.mem_append_left _ hn
    · exact List.mem_append_right _ (weightsAll_in hd n hn)
end

theorem cEntE : Tryz.prog.cellsOf 71 = 4 := by kernel_rfl
theorem bByteE : Tryz.prog.bytesOf 5 = 1 := by kernel_rfl
/-- One entry. -/
theorem ent_of {H : Type} {enc : TypeId × Value → H} {W : World} {held : Bool} {m' : Nat} {cs : List Value} {z : DataW H × List MemPlace} (hl : cs.length = 4) (htr : DataW.trod enc Tryz.prog W 0 (fun _ => true) held m' 71 cs = some z) :
    ∃ (e : En) (u : Value), e.ok ∧ cs = [.int .i64 e.index, .int .i64 e.term, .int .i64 e.kind, u] ∧ Bys W u e.data ∧ ((∀ n ∈ z.1.weights Tryz.prog 71, n ≤ reachBytes) → e.data.length ≤ 140737488355328) := by
  obtain ⟨y0, y1, y2, y3, n, hz, t0, t1, t2, t3⟩ := trod_structE4 Tryz.underlying71 htr
  obtain ⟨c0, c1, c2, c3, rfl⟩ : ∃ c0 c1 c2 c3, cs = [c0, c1, c2, c3] := by
    match cs, hl with
    | [c0, c1, c2, c3], _ => exact ⟨c0, c1, c2, c3, rfl⟩
  have t0' : DataW.trod enc Tryz.prog W 0 (fun _ => true) held n 3 [c0] = some y0 := t0
  have t1' : DataW.trod enc Tryz.prog W 0 (fun _ => true) held n 3 [c1] = some y1 := t1
  have t2' : DataW.trod enc Tryz.prog W 0 (fun _ => true) held n 3 [c2] = some y2 := t2
  have t3' : DataW.trod enc Tryz.prog W 0 (fun _ => true) held n 22 [c3] = some y3 := t3
  obtain ⟨k0, e0, _, w0⟩ := DataW.trod_int Tryz.underlying3 t0'
  obtain ⟨k1, e1, _, w1⟩ := DataW.trod_int Tryz.underlying3 t1'
  obtain ⟨k2, e2, _, w2⟩ := DataW.trod_int Tryz.underlying3 t2'
  obtain ⟨A3, n3, c3', bs, e3, hs3, hd3⟩ := sl_of_trod t3'
  simp only [List.cons.injEq, and_true] at e0 e1 e2
  subst e0; subst e1; subst e2; subst e3
  refine ⟨⟨k0, k1, k2, bs⟩, _, ⟨inI_of w0, inI_of w1, inI_of w2⟩, rfl, Bys.of_sl hs3, fun hw => ?_⟩
  rcases hd3 with ⟨_, rfl⟩ | ⟨es, sp, hd, hel⟩
  · simp
  · rw [hz] at hw
    have := hw (es.length + sp.length) (by
      simp [DataW.weights, Tryz.underlying71, DataW.weightsEach, hd, Tryz.underlying22, bByteE])
    simp only [reachBytes] at this
    show bs.length ≤ _
    omega
/-- A slice of entries. -/
theorem ents_of_trod {H : Type} {enc : TypeId × Value → H} {W : World} {held : Bool} {fuel : Nat} {v : Value} {y : DataW H × List MemPlace}
    (h : DataW.trod enc Tryz.prog W 0 (fun _ => true) held fuel 23 [v] = some y) (hw : ∀ n ∈ y.1.weights Tryz.prog 23, n ≤ reachBytes) :
    ∃ A c l, v = .slice A (List.length l) c ∧ Ents W (.slice A l.length c) l ∧ ∀ e ∈ l, e.data.length ≤ 140737488355328 := by
  obtain ⟨A, n, c, cs, rfl, hr, hd⟩ := row_of_trod Tryz.underlying23 cEntE (by omega) h
  rcases hd with ⟨hy, rfl⟩ | ⟨es, sp, hy, hl, he⟩
  · exact ⟨A, c, [], rfl, ⟨⟨cs, hr, fun j hj => by simp at hj⟩, fun e he => by cases he⟩, fun e he => by cases he⟩
  · have hone : ∀ i : Fin n, ∃ e : En, e.ok ∧ cs[i.1 * 4]? = some (.int .i64 e.index) ∧ cs[i.1 * 4 + 1]? = some (.int .i64 e.term) ∧ cs[i.1 * 4 + 2]? = some (.int .i64 e.kind) ∧ (∃ u, cs[i.1 * 4 + 3]? = some u ∧ Bys W u e.data) ∧ e.data.length ≤ 140737488355328 := fun ⟨i, hi⟩ => by
      obtain ⟨m, z, htr, hz⟩ := he i hi
      have hl1 : cs.length = n * 4 := hr.1
      obtain ⟨a, u, hok, hcs, hb, hlen⟩ := ent_of (by rw [List.length_take, List.length_drop]; omega) htr
      have hg : ∀ o x, [Value.int .i64 a.index, .int .i64 a.term, .int .i64 a.kind, u][o]? = some x → cs[i * 4 + o]? = some x := fun o x hx => by
        rw [← hcs, List.getElem?_take] at hx
        split at hx
        · rw [List.getElem?_drop] at hx; exact hx
        · cases hx
      refine ⟨a, hok, hg 0 _ rfl, hg 1 _ rfl, hg 2 _ rfl, ⟨u, hg 3 _ rfl, hb⟩, hlen fun k hk => hw k ?_⟩
      rw [hy]
      simp only [DataW.weights, Tryz.underlying23]
      exact List.mem_cons_of_mem _ (List.mem_append_left _ (weightsAll_in (List.mem_of_getElem? hz) k hk))
    obtain ⟨f, hf⟩ := Classical.axiomOfChoice hone
    have hln : (List.ofFn f).length = n := List.length_ofFn ..
    refine ⟨A, c, List.ofFn f, by rw [hln], ⟨⟨cs, by rw [hln]; exact hr, fun j hj => ?_⟩, fun e he => ?_⟩, fun e he => ?_⟩
    · have hj' : j < n := by rw [hln] at hj; exact hj
      have := hf ⟨j, hj'⟩
      simp only [List.getElem_ofFn]
      exact ⟨this.2.1, this.2.2.1, this.2.2.2.1, this.2.2.2.2.1⟩
    · obtain ⟨i, rfl⟩ := List.mem_ofFn.1 he
      exact (hf i).1
    · obtain ⟨i, rfl⟩ := List.mem_ofFn.1 he
      exact (hf i).2.2.2.2.2
theorem cMsgE : Tryz.prog.cellsOf 25 = 12 := by kernel_rfl
theorem open_msg {H : Type} {enc : TypeId × Value → H} {W : World} {r : Reach} {b0 : Nat} {held : Bool} {v : Value} {d : DataW H} {ps : List MemPlace} (hval : Value.okWide Tryz.prog W r b0 25 v)
    (hd : DataW.Trod enc Tryz.prog W 0 (fun _ => true) held 25 v d ps) (hw : ∀ n ∈ d.weights Tryz.prog 25, n ≤ reachBytes) :
    ∃ (m : Ms) (Ad : Option Addr) (nd cd : Nat) (Ae : Option Addr) (ne ce : Nat), v = .agg #[.int .i64 m.kind, .int .i64 m.frm, .int .i64 m.to, .int .i64 m.term, .int .i64 m.index, .int .i64 m.logTerm, .int .i64 m.commit, .int .i64 m.round, .bool m.ok, .int .i64 m.off, .slice Ad nd cd, .slice Ae ne ce] ∧ InM m Ad nd cd Ae ne ce W ∧ m.data.length ≤ 140737488355328 ∧ ∀ e ∈ m.ents, e.data.length ≤ 140737488355328 := by
  simp only [Value.okWide, Tryz.underlying25] at hval
  obtain ⟨csa, rfl, hsz, _⟩ := hval
  rw [cMsgE] at hsz
  obtain ⟨fuel, hf⟩ := hd
  obtain ⟨cs, hcs⟩ : ∃ cs, cs = csa.toList := ⟨_, rfl⟩
  have hl : cs.length = 12 := by rw [hcs]; simpa using hsz
  have hf' : DataW.trod enc Tryz.prog W 0 (fun _ => true) held fuel 25 cs = some (d, ps) := by rw [hcs]; exact hf
  have hcsa : csa = cs.toArray := by rw [hcs]
  clear hf hcs
  obtain ⟨y0, y1, y2, y3, y4, y5, y6, y7, y8, y9, y10, y11, n, hz, t0, t1, t2, t3, t4, t5, t6, t7, t8, t9, t10, t11⟩ := trod_structE12 Tryz.underlying25 hf'
  obtain ⟨c0, c1, c2, c3, c4, c5, c6, c7, c8, c9, c10, c11, rfl⟩ : ∃ c0 c1 c2 c3 c4 c5 c6 c7 c8 c9 c10 c11, cs = [c0, c1, c2, c3, c4, c5, c6, c7, c8, c9, c10, c11] := by
    match cs, hl with
    | [c0, c1, c2, c3, c4, c5, c6, c7, c8, c9, c10, c11], _ => exact ⟨c0, c1, c2, c3, c4, c5, c6, c7, c8, c9, c10, c11, rfl⟩
  have t0' : DataW.trod enc Tryz.prog W 0 (fun _ => true) held n 3 [c0] = some y0 := t0
  have t1' : DataW.trod enc Tryz.prog W 0 (fun _ => true) held n 3 [c1] = some y1 := t1
  have t2' : DataW.trod enc Tryz.prog W 0 (fun _ => true) held n 3 [c2] = some y2 := t2
  have t3' : DataW.trod enc Tryz.prog W 0 (fun _ => true) held n 3 [c3] = some y3 := t3
  have t4' : DataW.trod enc Tryz.prog W 0 (fun _ => true) held n 3 [c4] = some y4 := t4
  have t5' : DataW.trod enc Tryz.prog W 0 (fun _ => true) held n 3 [c5] = some y5 := t5
  have t6' : DataW.trod enc Tryz.prog W 0 (fun _ => true) held n 3 [c6] = some y6 := t6
  have t7' : DataW.trod enc Tryz.prog W 0 (fun _ => true) held n 3 [c7] = some y7 := t7
  have t8' : DataW.trod enc Tryz.prog W 0 (fun _ => true) held n 4 [c8] = some y8 := t8
  have t9' : DataW.trod enc Tryz.prog W 0 (fun _ => true) held n 3 [c9] = some y9 := t9
  have t10' : DataW.trod enc Tryz.prog W 0 (fun _ => true) held n 22 [c10] = some y10 := t10
  have t11' : DataW.trod enc Tryz.prog W 0 (fun _ => true) held n 23 [c11] = some y11 := t11
  obtain ⟨k0, e0, _, w0⟩ := DataW.trod_int Tryz.underlying3 t0'
  obtain ⟨k1, e1, _, w1⟩ := DataW.trod_int Tryz.underlying3 t1'
  obtain ⟨k2, e2, _, w2⟩ := DataW.trod_int Tryz.underlying3 t2'
  obtain ⟨k3, e3, _, w3⟩ := DataW.trod_int Tryz.underlying3 t3'
  obtain ⟨k4, e4, _, w4⟩ := DataW.trod_int Tryz.underlying3 t4'
  obtain ⟨k5, e5, _, w5⟩ := DataW.trod_int Tryz.underlying3 t5'
  obtain ⟨k6, e6, _, w6⟩ := DataW.trod_int Tryz.underlying3 t6'
  obtain ⟨k7, e7, _, w7⟩ := DataW.trod_int Tryz.underlying3 t7'
  obtain ⟨k9, e9, _, w9⟩ := DataW.trod_int Tryz.underlying3 t9'
  obtain ⟨k8, e8, -⟩ := DataW.trod_bool Tryz.underlying4 t8'
  obtain ⟨A3, n3, c3', bs, e10, hs3, hd3⟩ := sl_of_trod t10'
  obtain ⟨Ae, ce, l, e11, h1, h2⟩ := ents_of_trod t11' (fun k hk => hw k (by
    have hz' : d = _ := hz
    rw [hz']
    simp only [DataW.weights, Tryz.underlying25]
    simp only [DataW.weightsEach, List.map_cons]
    exact List.mem_append_right _ (List.mem_append_right _ (List.mem_append_right _ (List.mem_append_right _ (List.mem_append_right _ (List.mem_append_right _ (List.mem_append_right _ (List.mem_append_right _ (List.mem_append_right _ (List.mem_append_right _ (List.mem_append_right _ (List.mem_append_left _ hk)))))))))))))
  simp only [List.cons.injEq, and_true] at e0 e1 e2 e3 e4 e5 e6 e7 e8 e9
  subst e0; subst e1; subst e2; subst e3; subst e4; subst e5; subst e6; subst e7; subst e8; subst e9; subst e10; subst e11
  have hlen : bs.length ≤ 140737488355328 := by
    rcases hd3 with ⟨_, rfl⟩ | ⟨es, sp, hd, hel⟩
    · simp
    · have hz' : d = _ := hz
      rw [hz'] at hw
      have := hw (es.length + sp.length) (by
        simp [DataW.weights, Tryz.underlying25, DataW.weightsEach, hd, Tryz.underlying22, bByteE])
      simp only [reachBytes] at this
      omega
  exact ⟨⟨k0, k1, k2, k3, k4, k5, k6, k7, k8, k9, bs, l⟩, A3, _, c3', Ae, _, ce, by rw [hcsa], ⟨Bys.of_sl hs3, h1, inI_of w0, inI_of w1, inI_of w2, inI_of w3, inI_of w4, inI_of w5, inI_of w6, inI_of w7, inI_of w9⟩, hlen, h2⟩

end Go.Proofs.YtfblgkcipnkhaaaGreatDoor.pk
