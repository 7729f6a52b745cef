/-
  The program's own disk as the promises speak of it; its step, Sync and Start: walked.
-/
import Derived.Test.YthcikgbnenfjpaaDoorMineC
namespace Go.Proofs.YthcikgbnenfjpaaDoor.pk
open Go Go.RowKit
set_option maxRecDepth 100000

/-- What is armed, in the program's two fields. -/
def ArmR (d : Dk) (ar : Bool) (ah : Int) : Prop := d.armed ≤ 9223372036854775807 ∧ (d.off = false → ar = decide (0 ≤ d.armed) ∧ (0 ≤ d.armed → ah = d.armed))

/-- The disk at p is d; the blocks of R are as in wR, and nobody writes them. -/
def DKr (R : Nat → Prop) (wR w : World) (S : Nat → Prop) (p : Nat) (d : Dk) : Prop :=
  ∃ gn gs nc sc vw cs ar ah, Rep w S p gn gs nc sc d.B.length vw cs d.now d.B d.L d.off ar ah ∧ (∀ k, R k → Rest S p gn gs vw k ∧ w.heap[k]? = wR.heap[k]?) ∧ (d.Ok ∧ 1 ≤ d.B.length ∧ d.B.length ≤ 4194304) ∧ ArmR d ar ah

section
variable {w w' : World} {S : Nat → Prop} {p gn gs nc sc n : Nat} {vw : Value} {cs : List Value} {nowb safeb b : List UInt8} {L K : List (Nat × List UInt8)} {off : Bool} {R : Nat → Prop} {wR : World} {d : Dk} {ar : Bool} {ah : Int}

theorem pins_go (hp : ∀ k, R k → Rest S p gn gs vw k ∧ w.heap[k]? = wR.heap[k]?) (hf : ∀ k, S k → k < w.heap.size) (hk : Kept (Mut p gn gs vw) w w') : ∀ k, R k → Rest S p gn gs vw k ∧ w'.heap[k]? = wR.heap[k]? := fun k hr => by
  obtain ⟨h1, h2⟩ := hp k hr
  exact ⟨h1, (hk.block k (hf k h1.1) h1.not).trans h2⟩
theorem Rest.re {vw' : Value} (e : vw'.ownBlock = vw.ownBlock) {k : Nat} (h : Rest S p gn gs vw k) : Rest S p gn gs vw' k := ⟨h.1, h.2.1, h.2.2.1, h.2.2.2.1, by rw [e]; exact h.2.2.2.2⟩
theorem mut_turn (h : Rep w S p gn gs nc sc n vw cs nowb safeb L off ar ah) (hk : Kept (Mut p gn gs vw) w w') : Turn S S w w' := Kept.turn (hk.mono fun k hm => by
  rcases hm with e | e | e | e
  · rw [e]; exact h.sp
  · rw [e]; exact h.sn
  · rw [e]; exact h.ss
  · exact h.sw k e)

/-- step, of a disk whose power is on. -/
theorem step_dk (h : Rep w S p gn gs nc sc n vw cs nowb safeb L d.off ar ah) (ho : d.off = false) (ha : ArmR d ar ah) :
    Calls Tryd.prog 28 #[.pointer (some ⟨p, 0, none⟩)] w fun x w' => x = .returned (er (stepE d)) ∧ ∃ ar' ah', Rep w' S p gn gs nc sc n vw cs nowb safeb L (stepD d).off ar' ah' ∧ ArmR (stepD d) ar' ah' ∧ Kept (Mut p gn gs vw) w w' := by
  obtain ⟨h1, h2⟩ := ha
  obtain ⟨h3, h4⟩ := h2 ho
  by_cases h0 : d.armed = 0
  · have e1 : stepE d = 13 := by unfold stepE; rw [if_pos h0]
    have e2 : stepD d = { d with off := true, armed := -1 } := by unfold stepD; rw [if_pos h0]
    have h5 : ah = 0 := by rw [h4 (by omega), h0]
    have h6 : ar = true := by rw [h3]; exact decide_eq_true (by omega)
    subst h6
    rw [e1, e2]
    exact (step_now h h5).mono fun _ _ ⟨hx, hw⟩ => ⟨hx, true, ah, hw ▸ h.set3 true, ⟨by show (-1 : Int) ≤ _; omega, fun hc => by cases hc⟩, hw ▸ kept_set (Or.inl rfl) _⟩
  · have e1 : stepE d = 0 := by unfold stepE; rw [if_neg h0]
    by_cases hp : 0 < d.armed
    · have e2 : stepD d = { d with armed := d.armed - 1 } := by unfold stepD; rw [if_neg h0, if_pos hp]
      have h5 : ah = d.armed := h4 (by omega)
      have h6 : ar = true := by rw [h3]; exact decide_eq_true (by omega)
      subst h6; subst h5
      rw [e1, e2]
      exact (step_later h hp h1).mono fun _ _ ⟨hx, hw⟩ => ⟨hx, true, d.armed - 1, hw ▸ h.set5 _, ⟨by show d.armed - 1 ≤ _; omega, fun _ => ⟨(decide_eq_true (show (0 : Int) ≤ d.armed - 1 by omega)).symm, fun _ => rfl⟩⟩, hw ▸ kept_set (Or.inl rfl) _⟩
    · have e2 : stepD d = d := by unfold stepD; rw [if_neg h0, if_neg hp]
      have h6 : ar = false := by rw [h3]; exact decide_eq_false (by omega)
      subst h6
      rw [e1, e2]
      exact (step_no h).mono fun _ _ ⟨hx, hw⟩ => ⟨hx, false, ah, hw ▸ h, ⟨h1, h2⟩, hw ▸ Kept.refl _ _⟩

/-- What settle leaves, where what is now is what the writes made. -/
theorem settled (h : Rep w' S p gn gs nc sc n vw [] (backL (nowL b L) (nowL b K) L) (nowL b K) [] off ar ah) (hok : ∀ x ∈ L, x.1 + x.2.length ≤ b.length) (hk : ∀ x ∈ K, x.1 + x.2.length ≤ b.length) (hc : ∀ j, Cover K j → Cover L j) :
    Rep w' S p gn gs nc sc n vw [] (nowL b K) (nowL b K) [] off ar ah := by
  rw [backL_now b L K hok hk hc] at h
  exact h

set_option maxHeartbeats 1000000 in
theorem Sync_any (h : DKr R wR w S p d) :
    Calls Tryd.prog 10 #[.pointer (some ⟨p, 0, none⟩)] w fun r w' => ∃ S', r = .returned (er (syncE d)) ∧ DKr R wR w' S' p (syncD d) ∧ Turn S S' w w' := by
  obtain ⟨gn, gs, nc, sc, vw, cs, ar, ah, hr, hp, ⟨hok, hb1, hb2⟩, ha⟩ := h
  cases ho : d.off with
  | true =>
    have e1 : syncE d = 13 := by unfold syncE; rw [if_pos ho]
    have e2 : syncD d = d := by unfold syncD; rw [if_pos ho]
    rw [e1, e2]
    obtain ⟨-, -, -, c3, -, -, -⟩ := hr.cells
    rw [ho] at c3
    have HK := Lib.hid (show DKr R wR w S p d from ⟨gn, gs, nc, sc, vw, cs, ar, ah, hr, hp, ⟨hok, hb1, hb2⟩, ha⟩)
    clear hr hp hok hb1 hb2 ha ho e1 e2
    go_enter Tryd.func10, Tryd.ntmps10
    go_wp2
    go_ret
    exact ⟨S, rfl, HK.out, Turn.refl _ _⟩
  | false =>
    have hst := step_dk hr ho ha
    obtain ⟨-, -, -, c3, -, -, -⟩ := hr.cells
    rw [ho] at c3
    have hfoot := hr.foot
    have hdl := stepD_L d
    by_cases h0 : stepE d = 0
    · have e1 : syncE d = 0 := by unfold syncE; rw [if_neg (by simp [ho]), h0]
      have e2 : syncD d = { stepD d with B := d.now, L := [] } := by unfold syncD; rw [if_neg (by simp [ho]), if_pos h0]
      rw [h0, er_zero] at hst
      rw [e1, e2, er_zero]
      have hoff : (stepD d).off = false := by
        unfold stepE at h0
        unfold stepD
        by_cases hz : d.armed = 0
        · rw [if_pos hz] at h0; omega
        · rw [if_neg hz]
          by_cases hz1 : 0 < d.armed
          · rw [if_pos hz1]; exact ho
          · rw [if_neg hz1]; exact ho
      have HS := Lib.hid hst
      have HP := Lib.hid hp
      have HF := Lib.hid hfoot
      have HO := Lib.hid (And.intro hok (And.intro hb1 (And.intro hb2 hoff)))
      obtain ⟨A, c, rfl, hlc, hcm⟩ := own_form hr.rows
      obtain ⟨m, hm⟩ : ∃ m, m = d.L.length := ⟨_, rfl⟩
      rw [← hm] at hlc HS HP
      have HM := Lib.hid hm
      have HTR := Lib.hid (fun (W : World) (hk : Kept (Mut p gn gs (.slice A d.L.length c)) w W) => mut_turn hr hk)
      clear hr hp hok hb1 hb2 ha hst hfoot hdl ho hoff e1 e2 h0 hm
      go_enter Tryd.func10, Tryd.ntmps10
      go_upto_region 8 with (go_at_call 28; go_must (refine HS.out.mono ?_; rintro y w2 ⟨rfl, ar', ah', hr2, ha2, hk2⟩; have H2 := Lib.hid (And.intro hr2 (And.intro ha2 hk2)); obtain ⟨-, -, k2, -, -, -, -⟩ := hr2.cells; clear hr2 ha2 hk2))
      go_upto_region 9 with (go_at_call 29; go_must (refine (settle_any (vw := .slice A m c) H2.out.1 m 0 (by rw [HM.out]; exact Nat.le_refl _) (fun hlt => by have := HM.out; omega) HO.out.1).mono ?_; rintro y w3 ⟨rfl, ⟨vw', hr3, hv3⟩, hk3⟩; have H3 := Lib.hid (And.intro hr3 (And.intro hv3 hk3)); clear hr3 hv3 hk3))
      go_wp2_with fail
      go_ret
      obtain ⟨hr2, ha2, hk2⟩ := H2.out
      obtain ⟨hr3, hv3, hk3⟩ := H3.out
      obtain ⟨hok, hb1, hb2, hoff⟩ := HO.out
      have hpl : partL d.L m 0 = d.L := by rw [HM.out]; exact partL_all _ _
      rw [hpl] at hr3
      have hr4 := settled (b := d.B) (L := d.L) (K := d.L) hr3 hok hok (fun _ h => h)
      have hln : d.now.length = d.B.length := hok.now
      have hkk := hk2.trans hk3
      refine ⟨S, rfl, ⟨gn, gs, nc, sc, vw', [], ar', ah', ?_, fun k hr => ?_, ⟨fun x hx => (by cases hx), by show 1 ≤ d.now.length; omega, by show d.now.length ≤ _; omega⟩, ?_⟩, HTR.out _ (by rw [← HM.out]; exact hkk)⟩
      · show Rep _ S p gn gs nc sc d.now.length vw' [] (nowL d.now []) d.now [] (stepD d).off ar' ah'
        rw [hln]
        exact hr4
      · obtain ⟨h1, h2⟩ := pins_go HP.out HF.out hkk k hr
        exact ⟨h1.re hv3, h2⟩
      · exact ha2
    · have e1 : syncE d = stepE d := by unfold syncE; rw [if_neg (by simp [ho])]
      have e2 : syncD d = stepD d := by unfold syncD; rw [if_neg (by simp [ho]), if_neg h0]
      have h13 : stepE d = 13 := by
        unfold stepE at h0 ⊢
        by_cases hz : d.armed = 0
        · rw [if_pos hz]
        · rw [if_neg hz] at h0; exact absurd rfl h0
      rw [e1, e2, h13]
      rw [h13] at hst
      have hE : er 13 = .iface 58 (.int .i64 13) := rfl
      rw [hE] at hst ⊢
      have HS := Lib.hid hst
      have HK := Lib.hid (fun (W : World) (ar' : Bool) (ah' : Int) (hr2 : Rep W S p gn gs nc sc d.B.length vw cs d.now d.B d.L (stepD d).off ar' ah') (ha2 : ArmR (stepD d) ar' ah') (hk2 : Kept (Mut p gn gs vw) w W) =>
        show DKr R wR W S p (stepD d) ∧ Turn S S w W from ⟨⟨gn, gs, nc, sc, vw, cs, ar', ah', by rw [Dk.now, hdl.1, hdl.2]; exact hr2, pins_go hp hfoot hk2, ⟨stepD_ok hok, by rw [hdl.2]; exact ⟨hb1, hb2⟩⟩, ha2⟩, mut_turn hr hk2⟩)
      clear hr hp hok hb1 hb2 ha hst hfoot hdl ho e1 e2 h0 h13 hE
      go_enter Tryd.func10, Tryd.ntmps10
      go_wp2_with (go_at_call 28; go_must (refine HS.out.mono ?_; rintro y w2 ⟨rfl, ar', ah', hr2, ha2, hk2⟩; have H2 := Lib.hid (HK.out _ _ _ hr2 ha2 hk2); clear hr2 ha2 hk2))
      go_ret
      exact ⟨S, rfl, H2.out.1, H2.out.2⟩

set_option maxHeartbeats 1000000 in
theorem Start_any (h : DKr R wR w S p d) (A : Option Addr) (m c : Nat) (keep : List Int) (hl : d.L.length < 100000) (hk : IntsT w (Av w S) (.slice A m c) keep) (hin : ∀ z ∈ keep, inI z) :
    Calls Tryd.prog 24 #[.pointer (some ⟨p, 0, none⟩), .slice A m c] w fun r w' => ∃ S', r = .returned (.tuple #[]) ∧ DKr R wR w' S' p (startD d keep) ∧ Turn S S' w w' := by
  obtain ⟨gn, gs, nc, sc, vw, cs, ar, ah, hr, hp, ⟨hok, hb1, hb2⟩, ha⟩ := h
  obtain ⟨A2, c2, rfl, hlc, hcm⟩ := own_form hr.rows
  obtain ⟨k, hkk⟩ : ∃ k, k = d.L.length := ⟨_, rfl⟩
  obtain ⟨whole, hwh⟩ : ∃ x, x = restK keep 0 (d.L.length + 1) := ⟨_, rfl⟩
  have hwl : whole < d.L.length + 1 := by rw [hwh]; exact restK_le _ _ _ (by omega)
  have r0 := remainder_any w (Av w S) A m c keep hk hin 0 (d.L.length + 1) (by omega) (by omega) (by omega)
  rw [← hwh] at r0
  obtain ⟨-, -, x2, -, -, -, -⟩ := hr.cells
  have hs1 : ((d.L.length + 1 : Nat) : Int) = (d.L.length : Int) + 1 := by omega
  rw [hs1] at r0
  rw [← hkk] at hlc x2 r0 hl hwl
  have HF := Lib.hid hr.foot
  have HR := Lib.hid hr
  have HP := Lib.hid hp
  have HO := Lib.hid (And.intro hok (And.intro hb1 hb2))
  have HKK := Lib.hid hkk
  have HWH := Lib.hid hwh
  have R0 := Lib.hid r0
  have fin : ∀ (part : Nat) (W : World), (∀ h : whole < d.L.length, part = restK keep 1 (d.L[whole].2.length + 1)) →
      ((∃ vw', Rep W S p gn gs nc sc d.B.length vw' [] (backL d.now (nowL d.B (partL d.L whole part)) d.L) (nowL d.B (partL d.L whole part)) [] d.off ar ah ∧ vw'.ownBlock = (Value.slice A2 d.L.length c2).ownBlock) ∧ Kept (Mut p gn gs (.slice A2 d.L.length c2)) w W) →
      DKr R wR ((W.setCell ⟨p, 3, none⟩ (.bool false)).setCell ⟨p, 4, none⟩ (.bool false)) S p (startD d keep) ∧ Turn S S w ((W.setCell ⟨p, 3, none⟩ (.bool false)).setCell ⟨p, 4, none⟩ (.bool false)) := by
    intro part W hpart ⟨⟨vw', h1, h2⟩, h3⟩
    have hK : partL d.L whole part = keptL d.L keep := by rw [hwh]; exact partL_kept _ _ _ (by rw [← hwh]; exact hpart)
    rw [hK] at h1
    have h4 := settled (b := d.B) (L := d.L) (K := keptL d.L keep) h1 hok (keptL_ok hok keep) (by rw [← hK]; exact fun j hj => partL_cover j hj)
    have h5 := (h4.set3 false).set4 false
    have hln : (nowL d.B (keptL d.L keep)).length = d.B.length := nowL_len (keptL_ok hok keep)
    have hkt := (h3.trans (kept_set (p := p) (j := 3) (Or.inl rfl) (.bool false))).trans (kept_set (p := p) (j := 4) (Or.inl rfl) (.bool false))
    refine ⟨⟨gn, gs, nc, sc, vw', [], false, ah, ?_, fun k hr' => ?_, ⟨startD_ok _ _, by rw [startD_len hok]; exact ⟨hb1, hb2⟩⟩, ⟨by show (-1 : Int) ≤ _; omega, fun _ => ⟨rfl, fun (hc : (0 : Int) ≤ -1) => by omega⟩⟩⟩, mut_turn hr hkt⟩
    · show Rep _ S p gn gs nc sc (nowL d.B (keptL d.L keep)).length vw' [] (nowL (nowL d.B (keptL d.L keep)) []) (nowL d.B (keptL d.L keep)) [] false false ah
      rw [hln]
      exact h5
    · obtain ⟨h1, h2'⟩ := pins_go hp hr.foot hkt k hr'
      exact ⟨h1.re h2, h2'⟩
  have FIN := Lib.hid fin
  by_cases hlt : whole < k
  · have hlt' : whole < d.L.length := by omega
    obtain ⟨gw, c3, Ab, cb, hv, hgw, e0, e1, hsl⟩ := hr.elem whole hlt'
    injection hv with ea eb ec
    subst ea; subst ec
    obtain ⟨lx, hlx⟩ : ∃ lx, lx = (d.L[whole]'hlt').2.length := ⟨_, rfl⟩
    obtain ⟨part, hpart⟩ : ∃ part, part = restK keep 1 (lx + 1) := ⟨_, rfl⟩
    have hlxb : lx ≤ 4194304 := by have := hok (d.L[whole]'hlt') (List.getElem_mem _); omega
    have r1 := remainder_any w (Av w S) A m c keep hk hin 1 (lx + 1) (by omega) (by omega) (by omega)
    rw [← hpart] at r1
    have hs2 : ((lx + 1 : Nat) : Int) = (lx : Int) + 1 := by omega
    rw [hs2] at r1
    have hpl : part ≤ lx := by have := restK_le keep 1 (lx + 1) (by omega); omega
    have R1 := Lib.hid r1
    rw [← hlx] at e1
    have HLX := Lib.hid hlx
    have HPA := Lib.hid hpart
    have HPL := Lib.hid hpl
    clear hk hin hp hok hb1 hb2 ha hkk hwh r0 hs1 eb hsl hgw e0 hlx hpart r1 hs2 hpl fin hr
    go_enter Tryd.func24, Tryd.ntmps24
    go_upto_region 2 with (go_at_call 35; go_must (refine R0.out.mono ?_; rintro y w1 ⟨rfl, rfl⟩))
    go_upto_region 4 with (go_at_call 35; go_must (refine R1.out.mono ?_; rintro y w1 ⟨rfl, rfl⟩))
    go_upto_region 5 with (go_at_call 29; go_must (refine (settle_any HR.out whole part (by have := HKK.out; omega) (fun h => by have := HLX.out; have := HPL.out; omega) HO.out.1).mono ?_; rintro y w2 ⟨rfl, h2⟩; have H2 := Lib.hid h2; clear h2))
    have q := H2.out.1
    obtain ⟨vw', q1, -⟩ := q
    obtain ⟨-, -, -, y3, y4, -, yf⟩ := q1.cells
    have f3 := yf 3
    have f4 := yf 4
    clear q1 yf
    go_wp2_with fail
    refine bodyPost_end (v := .tuple #[]) (results_none (by kernel_rfl) _ _ _) rfl ⟨S, rfl, ?_⟩
    exact FIN.out part w2 (fun h => by rw [HPA.out, HLX.out]) H2.out
  · have hwk : whole = k := by omega
    subst hwk
    clear hk hin hp hok hb1 hb2 ha hkk hwh r0 hs1 fin hr
    go_enter Tryd.func24, Tryd.ntmps24
    go_upto_region 2 with (go_at_call 35; go_must (refine R0.out.mono ?_; rintro y w1 ⟨rfl, rfl⟩))
    go_upto_region 5 with (go_at_call 29; go_must (refine (settle_any HR.out whole 0 (by have := HKK.out; omega) (fun h => Nat.zero_le _) HO.out.1).mono ?_; rintro y w2 ⟨rfl, h2⟩; have H2 := Lib.hid h2; clear h2))
    have q := H2.out.1
    obtain ⟨vw', q1, -⟩ := q
    obtain ⟨-, -, -, y3, y4, -, yf⟩ := q1.cells
    have f3 := yf 3
    have f4 := yf 4
    clear q1 yf
    go_wp2_with fail
    refine bodyPost_end (v := .tuple #[]) (results_none (by kernel_rfl) _ _ _) rfl ⟨S, rfl, ?_⟩
    exact FIN.out 0 w2 (fun h => by have := HKK.out; omega) H2.out
end

end Go.Proofs.YthcikgbnenfjpaaDoor.pk
