/-
  The program's own messages: what they promise holds.
-/
import Derived.Test.YtfblgkcipnkhaaaGreatDoorJr
import Derived.Test.YtfblgkcipnkhaaaGreatDoorEnM
import Derived.Test.YtfblgkcipnkhaaaGreatDoorSm3
import Derived.Test.YtfblgkcipnkhaaaGreatDoorJk
namespace Go.Proofs.YtfblgkcipnkhaaaGreatDoor.pk
open Go Go.RowKit
set_option maxRecDepth 100000

theorem rCount_short {most : Nat} {s : List UInt8 × Nat} {r : (List UInt8 × Nat) × Nat} (h : rCount most s = r) : r.1.1.length ≤ s.1.length := by
  by_cases h0 : (rCount most s).1.2 = 0
  · have h1 := (rCount_inv h0).2.1
    have h2 := congrArg List.length h1
    rw [List.length_append] at h2
    rw [← h]
    omega
  · subst h
    unfold rCount at h0 ⊢
    by_cases hk : s.2 = 0
    · rw [if_pos hk] at h0 ⊢
      by_cases h1 : (rdUint most s.1).1 ≠ 0
      · rw [if_pos h1]
        exact Nat.le_refl _
      · rw [if_neg h1] at h0 ⊢
        by_cases h2 : (rdUint most s.1).2.2.length < (rdUint most s.1).2.1
        · rw [if_pos h2]
          exact Nat.le_refl _
        · rw [if_neg h2] at h0
          exact absurd rfl h0
    · rw [if_neg hk]
      exact Nat.le_refl _
theorem rBool_short {s : List UInt8 × Nat} {r : (List UInt8 × Nat) × Bool} (h : rBool s = r) : r.1.1.length ≤ s.1.length := by
  by_cases h0 : (rBool s).1.2 = 0
  · have h1 := (rBool_inv h0).2
    have h2 := congrArg List.length h1
    rw [List.length_append] at h2
    rw [← h]
    omega
  · subst h
    unfold rBool at h0 ⊢
    by_cases hk : s.2 = 0
    · rw [if_pos hk] at h0 ⊢
      rcases hr : rdBool s.1 with ⟨k1, m, rest⟩
      rw [hr] at h0
      by_cases h1 : k1 = 0
      · simp [h1] at h0
      · simp [h1]
    · rw [if_neg hk]
      exact Nat.le_refl _

theorem Decode_t (A : Option Addr) (n c : Nat) (b : List UInt8) (w : World) (hs : StdP w) (h : Bys w (.slice A n c) b) (hn : n ≤ 140737488355328) (m : Ms) (k : Nat) (hr : (m, k) = decM b) (nd ne : Nat) (hnd : nd = m.data.length) (hne : ne = m.ents.length) :
    Calls Tryz.prog 11 #[.slice A n c] w fun y w' => ∃ Ad cd Ae ce, y = .returned (.tuple #[.agg #[.int .i64 m.kind, .int .i64 m.frm, .int .i64 m.to, .int .i64 m.term, .int .i64 m.index, .int .i64 m.logTerm, .int .i64 m.commit, .int .i64 m.round, .bool m.ok, .int .i64 m.off, .slice Ad nd cd, .slice Ae ne ce], er k]) ∧ InT m Ad nd cd Ae ne ce (fun q => w.heap.size ≤ q ∧ q < w'.heap.size) w' ∧ Below w.heap.size w w' := by
  have hln := h.len_
  rcases h1 : rUint 1099511627776 (b, 0) with ⟨⟨s1, k1⟩, v1⟩
  rcases h2 : rUint 1099511627776 (s1, k1) with ⟨⟨s2, k2⟩, v2⟩
  rcases h3 : rUint 1099511627776 (s2, k2) with ⟨⟨s3, k3⟩, v3⟩
  rcases h4 : rUint 1099511627776 (s3, k3) with ⟨⟨s4, k4⟩, v4⟩
  rcases h5 : rUint 1099511627776 (s4, k4) with ⟨⟨s5, k5⟩, v5⟩
  rcases h6 : rUint 1099511627776 (s5, k5) with ⟨⟨s6, k6⟩, v6⟩
  rcases h7 : rUint 1099511627776 (s6, k6) with ⟨⟨s7, k7⟩, v7⟩
  rcases h8 : rUint 1099511627776 (s7, k7) with ⟨⟨s8, k8⟩, v8⟩
  rcases h9 : rBool (s8, k8) with ⟨⟨s9, k9⟩, v9⟩
  rcases h10 : rUint 1099511627776 (s9, k9) with ⟨⟨s10, k10⟩, v10⟩
  rcases h11 : rBytes 98 4096 (s10, k10) with ⟨⟨s11, k11⟩, v11⟩
  rcases h12 : rCount 64 (s11, k11) with ⟨⟨s12, k12⟩, cnt⟩
  rcases ht : takeEs cnt (s12, k12) with ⟨⟨⟨sF, kF⟩, okF⟩, esF⟩
  have l1 := rUint_small h1 (by omega)
  have l2 := rUint_small h2 (by omega)
  have l3 := rUint_small h3 (by omega)
  have l4 := rUint_small h4 (by omega)
  have l5 := rUint_small h5 (by omega)
  have l6 := rUint_small h6 (by omega)
  have l7 := rUint_small h7 (by omega)
  have l8 := rUint_small h8 (by omega)
  have l10 := rUint_small h10 (by omega)
  have t1 := rUint_short h1
  have t2 := rUint_short h2
  have t3 := rUint_short h3
  have t4 := rUint_short h4
  have t5 := rUint_short h5
  have t6 := rUint_short h6
  have t7 := rUint_short h7
  have t8 := rUint_short h8
  have t9 := rBool_short h9
  have t10 := rUint_short h10
  simp only at t1 t2 t3 t4 t5 t6 t7 t8 t9 t10 l1 l2 l3 l4 l5 l6 l7 l8 l10
  have t11 := rBytes_short h11 (by simp only; omega)
  have t12 := rCount_short h12
  simp only at t11 t12
  have hall : allR b = (((sF, kF), okF), ⟨(v1 : Int), (v2 : Int), (v3 : Int), (v4 : Int), (v5 : Int), (v6 : Int), (v7 : Int), (v8 : Int), v9, (v10 : Int), v11, esF⟩) := by
    unfold allR headR
    simp only [h1, h2, h3, h4, h5, h6, h7, h8, h9, h10, h11, h12, ht]
  have hfin : (m, k) = if (decide (doneR (sF, kF) = 0) && okF && mayM ⟨(v1 : Int), (v2 : Int), (v3 : Int), (v4 : Int), (v5 : Int), (v6 : Int), (v7 : Int), (v8 : Int), v9, (v10 : Int), v11, esF⟩) = true then (⟨(v1 : Int), (v2 : Int), (v3 : Int), (v4 : Int), (v5 : Int), (v6 : Int), (v7 : Int), (v8 : Int), v9, (v10 : Int), v11, esF⟩, 0) else (zm, 3) := by
    rw [hr]
    unfold decM okR
    rw [hall]
  exact DecM_walk A n c b w hs h hn s1 k1 v1 h1 l1 s2 k2 v2 h2 l2 s3 k3 v3 h3 l3 s4 k4 v4 h4 l4 s5 k5 v5 h5 l5 s6 k6 v6 h6 l6 s7 k7 v7 h7 l7 s8 k8 v8 h8 l8 s9 k9 v9 h9 s10 k10 v10 h10 l10 s11 k11 v11 h11 (by omega) v11.length rfl s12 k12 cnt h12 (by omega) (rCount_le h12) sF kF okF esF ht m k hfin nd ne hnd hne

set_option maxHeartbeats 4000000 in
theorem Seal_m (m : Ms) (Ad : Option Addr) (nd cd : Nat) (Ae : Option Addr) (ne ce : Nat) (w : World) (hs : StdG w) (h : InM m Ad nd cd Ae ne ce w) (hnd : nd ≤ 10000) (hse : SmallE 200 25663 m.ents) (n : Nat) (hn : n = (sealM m).length) :
    Calls Tryz.prog 22 #[.agg #[.int .i64 m.kind, .int .i64 m.frm, .int .i64 m.to, .int .i64 m.term, .int .i64 m.index, .int .i64 m.logTerm, .int .i64 m.commit, .int .i64 m.round, .bool m.ok, .int .i64 m.off, .slice Ad nd cd, .slice Ae ne ce]] w fun y w' => ∃ A1 c1, y = .returned (.slice A1 n c1) ∧ Bys w' (.slice A1 n c1) (sealM m) ∧ Below w.heap.size w w' := by
  obtain ⟨W1, g, hW1, hg, hb1, hq, hsz⟩ := one_box w (.cells #[.int .i64 m.kind, .int .i64 m.frm, .int .i64 m.to, .int .i64 m.term, .int .i64 m.index, .int .i64 m.logTerm, .int .i64 m.commit, .int .i64 m.round, .bool m.ok, .int .i64 m.off, .slice Ad nd cd, .slice Ae ne ce] 30)
  have HW := Lib.hid (And.intro hW1 hg)
  have HE := Lib.hid hb1
  obtain ⟨z0, z1, z2, z3, z4, z5, z6, z7, z8, z9, z10, z11⟩ := cells12 hq
  obtain ⟨k, hk⟩ : ∃ k, k = (encM m).length := ⟨_, rfl⟩
  have CE := Lib.hid (Encode_m m Ad nd cd Ae ne ce W1 (hs.below hb1) (h.below hb1) hnd hse k hk)
  obtain ⟨e, he⟩ : ∃ e, e = sealE 109 (encM m) := ⟨_, rfl⟩
  have CS := Lib.hid fun A c W (hB : Bys W (.slice A k c) (encM m)) => Seal_any 109 A k c (encM m) W W.heap.size (Nat.le_refl _) hB.sl_
  rw [← he] at CS
  have e109 : (((109 : UInt8).toNat : Nat) : Int) = 109 := rfl
  simp only [e109] at CS
  have HN := Lib.hid hn
  have hcase : e = 0 ∨ (e ≠ 0 ∧ n = 0 ∧ sealM m = []) := by
    by_cases h0 : e = 0
    · exact Or.inl h0
    · have h1 : sealM m = [] := by unfold sealM sealB; rw [if_neg (by rw [← he]; exact h0)]
      exact Or.inr ⟨h0, by rw [hn, h1]; rfl, h1⟩
  clear hW1 hg hb1 hq hsz hs h hnd hse hn hk he e109
  rcases hcase with rfl | ⟨h0, rfl, h1⟩
  · rw [er_zero] at CS
    go_enter Tryz.func22, Tryz.ntmps22
    go_upto_region 1 with fail
    rw [← HW.out.1, ← HW.out.2]
    go_wp2_with (first
      | (go_at_call 16; go_must (refine CE.out.mono ?_; rintro y w1 ⟨A1, c1, rfl, hi, hb⟩; have H1 := Lib.hid (And.intro hi hb); clear hi hb))
      | (go_at_call 57; go_must (refine (CS.out A1 c1 w1 H1.out.1).mono ?_; rintro y w2 ⟨v, rfl, ho, hb⟩; have hI := Bys.of_own ho; obtain ⟨A2, c2, hv, -, -⟩ := hI.form; subst hv; have H2 := Lib.hid (And.intro hI hb); clear ho hI hb)))
    go_ret
    have hsl : (sealB 109 (encM m)).length = n := HN.out.symm
    have b1 := HE.out.trans (H1.out.2.mono HE.out.size)
    exact ⟨A2, c2, by rw [hsl]; rfl, by rw [← hsl]; exact H2.out.1, b1.trans (H2.out.2.mono b1.size)⟩
  · rw [er_ne h0] at CS
    have H0 := Lib.hid h1
    clear h1
    go_enter Tryz.func22, Tryz.ntmps22
    go_upto_region 1 with fail
    rw [← HW.out.1, ← HW.out.2]
    go_wp2_with (first
      | (go_at_call 16; go_must (refine CE.out.mono ?_; rintro y w1 ⟨A1, c1, rfl, hi, hb⟩; have H1 := Lib.hid (And.intro hi hb); clear hi hb))
      | (go_at_call 57; go_must (refine (CS.out A1 c1 w1 H1.out.1).mono ?_; rintro y w2 ⟨v, rfl, ho, hb⟩; have H2 := Lib.hid hb; clear ho hb)))
    go_ret
    have b1 := HE.out.trans (H1.out.2.mono HE.out.size)
    exact ⟨none, 0, rfl, by rw [H0.out]; exact Bys.nil_ _, b1.trans (H2.out.mono b1.size)⟩

set_option maxHeartbeats 8000000 in
theorem Open_m (A : Option Addr) (n c : Nat) (b : List UInt8) (w : World) (hs : StdP w) (h : Bys w (.slice A n c) b) (hn : n ≤ 140737488355328) (m : Ms) (k : Nat) (hr : (m, k) = openM b) (nd ne : Nat) (hnd : nd = m.data.length) (hne : ne = m.ents.length) :
    Calls Tryz.prog 20 #[.slice A n c] w fun y w' => ∃ Ad cd Ae ce, y = .returned (.tuple #[.agg #[.int .i64 m.kind, .int .i64 m.frm, .int .i64 m.to, .int .i64 m.term, .int .i64 m.index, .int .i64 m.logTerm, .int .i64 m.commit, .int .i64 m.round, .bool m.ok, .int .i64 m.off, .slice Ad nd cd, .slice Ae ne ce], er k]) ∧ InM m Ad nd cd Ae ne ce w' ∧ Below w.heap.size w w' := by
  obtain ⟨W0, g, hW0, hg, hb0, hz0, hsz⟩ := one_box w (.cells #[.int .i64 0, .int .i64 0, .int .i64 0, .int .i64 0, .int .i64 0, .int .i64 0, .int .i64 0, .int .i64 0, .bool false, .int .i64 0, .slice none 0 0, .slice none 0 0] 30)
  have hln := h.len_
  have HW := Lib.hid (And.intro hW0 hg)
  have HE := Lib.hid (And.intro hb0 (And.intro (show N12 W0 g (.int .i64 0) (.int .i64 0) (.int .i64 0) (.int .i64 0) (.int .i64 0) (.int .i64 0) (.int .i64 0) (.int .i64 0) (.bool false) (.int .i64 0) (.slice none 0 0) (.slice none 0 0) from hz0) hsz))
  have HS := Lib.hid fun W (hW : Below W0.heap.size W0 W) => (hs.more hb0).more hW
  obtain ⟨e, he⟩ : ∃ e, e = openE b := ⟨_, rfl⟩
  obtain ⟨kk, hkk⟩ : ∃ kk, kk = (openK b).toNat := ⟨_, rfl⟩
  have CO := Lib.hid (Open_any A n c b W0 W0.heap.size (Nat.le_refl _) ((h.below hb0).sl_))
  rw [← he, ← hkk] at CO
  have hxl : (openX b).length ≤ 140737488355328 := by
    unfold openX
    split
    · rw [List.length_drop, List.length_take]; omega
    · simp
  have CD := Lib.hid fun (hd : (m, k) = decM (openX b)) A2 n2 c2 W hS (hB : Bys W (.slice A2 n2 c2) (openX b)) => Decode_t A2 n2 c2 (openX b) W hS hB (by rw [hB.len_]; exact hxl) m k hd nd ne hnd hne
  have HN := Lib.hid (And.intro hnd hne)
  unfold openM at hr
  by_cases h1 : e = 0 ∧ kk = 109
  · have hk : openK b = 109 := by apply UInt8.toNat_inj.1; rw [← hkk, h1.2]; rfl
    rw [if_pos ⟨he ▸ h1.1, hk⟩] at hr
    have HR := Lib.hid hr
    obtain ⟨rfl, rfl⟩ := h1
    rw [er_zero] at CO
    have e109 : ((109 : Nat) : Int) = 109 := rfl
    rw [e109] at CO
    clear hr he hkk hk h hnd hne hn hln hs hxl hW0 hg hb0 hz0 hsz
    go_enter Tryz.func20, Tryz.ntmps20
    go_upto_region 1 with fail
    rw [← HW.out.1]
    try rw [← HW.out.2]
    go_wp2_with (first
      | (go_at_call 55; go_must (refine CO.out.mono ?_; rintro y w1 ⟨v, rfl, hS, hb⟩; obtain ⟨A2, c2, hv, hx1, hx2, hx3⟩ := id hS; subst hv; have H1 := Lib.hid (And.intro (Bys.of_sl hS) hb); clear hS hb hx1 hx2 hx3))
      | (go_at_call 11; go_must (refine (CD.out HR.out A2 _ c2 w1 (HS.out _ H1.out.2) H1.out.1).mono ?_; rintro y w2 ⟨Ad, cd, Ae, ce, rfl, hi, hb⟩; have TZ : N12 w2 g (.int .i64 0) (.int .i64 0) (.int .i64 0) (.int .i64 0) (.int .i64 0) (.int .i64 0) (.int .i64 0) (.int .i64 0) (.bool false) (.int .i64 0) (.slice none 0 0) (.slice none 0 0) := (HE.out.2.1.to (H1.out.2.block g HE.out.2.1.lt)).to (hb.block g (Nat.lt_of_lt_of_le HE.out.2.1.lt H1.out.2.size)); obtain ⟨z0, z1, z2, z3, z4, z5, z6, z7, z8, z9, z10, z11⟩ := cells12 TZ; have f0 := frozen_own TZ 0; have f1 := frozen_own TZ 1; have f2 := frozen_own TZ 2; have f3 := frozen_own TZ 3; have f4 := frozen_own TZ 4; have f5 := frozen_own TZ 5; have f6 := frozen_own TZ 6; have f7 := frozen_own TZ 7; have f8 := frozen_own TZ 8; have f9 := frozen_own TZ 9; have f10 := frozen_own TZ 10; have f11 := frozen_own TZ 11; have H2 := Lib.hid (And.intro TZ (And.intro hi hb)); clear TZ hi hb)))
    obtain ⟨F, hF, hE, hbQ, hoth, hsF⟩ := put12 H2.out.1 (.int .i64 m.kind) (.int .i64 m.frm) (.int .i64 m.to) (.int .i64 m.term) (.int .i64 m.index) (.int .i64 m.logTerm) (.int .i64 m.commit) (.int .i64 m.round) (.bool m.ok) (.int .i64 m.off) (.slice Ad nd cd) (.slice Ae ne ce)
    rw [← hF]
    clear hF z0 z1 z2 z3 z4 z5 z6 z7 z8 z9 z10 z11
    obtain ⟨z0, z1, z2, z3, z4, z5, z6, z7, z8, z9, z10, z11⟩ := cells12 hE
    have hgw := HW.out.2
    have hgs := HE.out.2.2
    have h1s := H1.out.2.size
    have hin := (H2.out.2.1.move (T' := fun q => q < F.heap.size) (w' := F) (fun q hq _ => hoth q (by have := hq.1; omega)) fun q hq => by rw [hsF]; exact hq.2).inM fun _ hq => hq
    exact bodyPost_ret (v := .tuple #[.agg #[.int .i64 m.kind, .int .i64 m.frm, .int .i64 m.to, .int .i64 m.term, .int .i64 m.index, .int .i64 m.logTerm, .int .i64 m.commit, .int .i64 m.round, .bool m.ok, .int .i64 m.off, .slice Ad nd cd, .slice Ae ne ce], er k]) (by simp [results, Tryz.results20, go_sem, z0, z1, z2, z3, z4, z5, z6, z7, z8, z9, z10, z11]) rfl ⟨Ad, cd, Ae, ce, rfl, hin, (HE.out.1.trans ((H1.out.2.trans (H2.out.2.2.mono H1.out.2.size)).mono HE.out.1.size)).trans (hbQ _ (by omega))⟩
  · have hz : (m, k) = (zm, 3) := by
      rw [hr, if_neg]
      rintro ⟨g1, g2⟩
      exact h1 ⟨he.trans g1, by rw [hkk, g2]; rfl⟩
    obtain ⟨rfl, rfl⟩ := Prod.mk.inj hz
    have h2 : e ≠ 0 ∨ (e = 0 ∧ ((kk : Int) != 109) = true) := by
      by_cases h3 : e = 0
      · exact Or.inr ⟨h3, by simp; omega⟩
      · exact Or.inl h3
    have nd0 : nd = 0 := hnd
    have ne0 : ne = 0 := hne
    subst nd0
    subst ne0
    clear hr he hkk h hnd hne hz h1 CD hn hln hs hxl hW0 hg hb0 hz0 hsz
    rcases h2 with h3 | ⟨rfl, h3⟩
    · rw [er_ne h3] at CO
      go_enter Tryz.func20, Tryz.ntmps20
      go_upto_region 1 with fail
      rw [← HW.out.1]
      try rw [← HW.out.2]
      go_wp2_with (go_at_call 55; go_must (refine CO.out.mono ?_; rintro y w1 ⟨v, rfl, hS, hb⟩; obtain ⟨A2, c2, hv, hx1, hx2, hx3⟩ := id hS; subst hv; have TZ : N12 w1 g (.int .i64 0) (.int .i64 0) (.int .i64 0) (.int .i64 0) (.int .i64 0) (.int .i64 0) (.int .i64 0) (.int .i64 0) (.bool false) (.int .i64 0) (.slice none 0 0) (.slice none 0 0) := HE.out.2.1.to (hb.block g HE.out.2.1.lt); obtain ⟨z0, z1, z2, z3, z4, z5, z6, z7, z8, z9, z10, z11⟩ := cells12 TZ; have f0 := frozen_own TZ 0; have f1 := frozen_own TZ 1; have f2 := frozen_own TZ 2; have f3 := frozen_own TZ 3; have f4 := frozen_own TZ 4; have f5 := frozen_own TZ 5; have f6 := frozen_own TZ 6; have f7 := frozen_own TZ 7; have f8 := frozen_own TZ 8; have f9 := frozen_own TZ 9; have f10 := frozen_own TZ 10; have f11 := frozen_own TZ 11; have H1 := Lib.hid (And.intro TZ hb); clear TZ hS hb hx1 hx2 hx3))
      obtain ⟨F, hF, hE, hbQ, hoth, hsF⟩ := put12 H1.out.1 (.int .i64 0) (.int .i64 0) (.int .i64 0) (.int .i64 0) (.int .i64 0) (.int .i64 0) (.int .i64 0) (.int .i64 0) (.bool false) (.int .i64 0) (.slice none 0 0) (.slice none 0 0)
      rw [← hF]
      clear hF z0 z1 z2 z3 z4 z5 z6 z7 z8 z9 z10 z11
      obtain ⟨z0, z1, z2, z3, z4, z5, z6, z7, z8, z9, z10, z11⟩ := cells12 hE
      have hgw := HW.out.2
      exact bodyPost_ret (v := .tuple #[.agg #[.int .i64 0, .int .i64 0, .int .i64 0, .int .i64 0, .int .i64 0, .int .i64 0, .int .i64 0, .int .i64 0, .bool false, .int .i64 0, .slice none 0 0, .slice none 0 0], .iface 60 (.int .i64 3)]) (by simp [results, Tryz.results20, go_sem, z0, z1, z2, z3, z4, z5, z6, z7, z8, z9, z10, z11]) rfl ⟨none, 0, none, 0, rfl, ⟨Bys.nil_ _, Ents.nil_ _, by unfold zm inI; decide⟩, (HE.out.1.trans (H1.out.2.mono HE.out.1.size)).trans (hbQ _ (by omega))⟩
    · rw [er_zero] at CO
      go_enter Tryz.func20, Tryz.ntmps20
      go_upto_region 1 with fail
      rw [← HW.out.1]
      try rw [← HW.out.2]
      go_wp2_with (go_at_call 55; go_must (refine CO.out.mono ?_; rintro y w1 ⟨v, rfl, hS, hb⟩; obtain ⟨A2, c2, hv, hx1, hx2, hx3⟩ := id hS; subst hv; have TZ : N12 w1 g (.int .i64 0) (.int .i64 0) (.int .i64 0) (.int .i64 0) (.int .i64 0) (.int .i64 0) (.int .i64 0) (.int .i64 0) (.bool false) (.int .i64 0) (.slice none 0 0) (.slice none 0 0) := HE.out.2.1.to (hb.block g HE.out.2.1.lt); obtain ⟨z0, z1, z2, z3, z4, z5, z6, z7, z8, z9, z10, z11⟩ := cells12 TZ; have f0 := frozen_own TZ 0; have f1 := frozen_own TZ 1; have f2 := frozen_own TZ 2; have f3 := frozen_own TZ 3; have f4 := frozen_own TZ 4; have f5 := frozen_own TZ 5; have f6 := frozen_own TZ 6; have f7 := frozen_own TZ 7; have f8 := frozen_own TZ 8; have f9 := frozen_own TZ 9; have f10 := frozen_own TZ 10; have f11 := frozen_own TZ 11; have H1 := Lib.hid (And.intro TZ hb); clear TZ hS hb hx1 hx2 hx3))
      obtain ⟨F, hF, hE, hbQ, hoth, hsF⟩ := put12 H1.out.1 (.int .i64 0) (.int .i64 0) (.int .i64 0) (.int .i64 0) (.int .i64 0) (.int .i64 0) (.int .i64 0) (.int .i64 0) (.bool false) (.int .i64 0) (.slice none 0 0) (.slice none 0 0)
      rw [← hF]
      clear hF z0 z1 z2 z3 z4 z5 z6 z7 z8 z9 z10 z11
      obtain ⟨z0, z1, z2, z3, z4, z5, z6, z7, z8, z9, z10, z11⟩ := cells12 hE
      have hgw := HW.out.2
      exact bodyPost_ret (v := .tuple #[.agg #[.int .i64 0, .int .i64 0, .int .i64 0, .int .i64 0, .int .i64 0, .int .i64 0, .int .i64 0, .int .i64 0, .bool false, .int .i64 0, .slice none 0 0, .slice none 0 0], .iface 60 (.int .i64 3)]) (by simp [results, Tryz.results20, go_sem, z0, z1, z2, z3, z4, z5, z6, z7, z8, z9, z10, z11]) rfl ⟨none, 0, none, 0, rfl, ⟨Bys.nil_ _, Ents.nil_ _, by unfold zm inI; decide⟩, (HE.out.1.trans (H1.out.2.mono HE.out.1.size)).trans (hbQ _ (by omega))⟩

theorem StdP.g {w : World} (h : StdP w) : StdG w := ⟨h.tab, h.std.size⟩
theorem conM : ConM where
  mCheck m Ad nd cd Ae ne ce w hs h hn hse k hk := Check_any m Ad nd cd Ae ne ce w hs h ⟨by have := hse.1; omega, hse.2⟩ k hk
  mEncode m Ad nd cd Ae ne ce w hs h hn hse n hn2 := Encode_m m Ad nd cd Ae ne ce w hs.g h hn hse n hn2
  mSeal m Ad nd cd Ae ne ce w hs h hn hse n hn2 := Seal_m m Ad nd cd Ae ne ce w hs.g h hn hse n hn2
  mDecode A n c b w hs h hn m k hr nd ne hnd hne := (Decode_t A n c b w hs h hn m k hr nd ne hnd hne).mono fun y w' ⟨Ad, cd, Ae, ce, hy, hi, hb⟩ => ⟨Ad, cd, Ae, ce, hy, hi.inM fun _ hq => hq.2, hb⟩
  mOpen A n c b w hs h hn m k hr nd ne hnd hne := Open_m A n c b w hs h hn m k hr nd ne hnd hne

end Go.Proofs.YtfblgkcipnkhaaaGreatDoor.pk
