/-
  The law ReadParts, over the contracts.
-/
import Derived.Test.YtojejcafahighaaDoorConQ
import Derived.Test.YtojejcafahighaaDoorNum
namespace Go.Proofs.YtojejcafahighaaDoor.pk
open Go Go.RowKit
set_option maxRecDepth 100000

theorem heldStrong {P : Program} {md : Region.Mode} {ops : Array Oper} {Q : Exit → Act → World → Prop} {S S' : World → Prop} (hSS : ∀ w, S' w → S w) :
    ∀ (fuel : Nat) (listed : Array Bool) (a : Act) (w : World), wpAnyH P md ops Q S' fuel listed a w → wpAnyH P md ops Q S fuel listed a w
  | 0, _, _, _, h => h
  | fuel + 1, _, _, _, h => ⟨h.1, fun i hi => wpOp_mono (fun a' w' h' => ⟨hSS _ h'.1, heldStrong hSS fuel _ a' w' h'.2⟩) (h.2 i hi)⟩
theorem cells3 {w : World} {b t : Nat} {v0 v1 v2 : Value} (h : w.heap[b]? = some (.cells #[v0, v1, v2] t (0, 0))) : w.cell? ⟨b, 0, none⟩ = some v0 ∧ w.cell? ⟨b, 1, none⟩ = some v1 ∧ w.cell? ⟨b, 2, none⟩ = some v2 := by
  refine ⟨?_, ?_, ?_⟩
  all_goals
    rw [cell_of_row w b _ _ _ (0, 0) h]
    rfl

set_option maxHeartbeats 16000000 in
theorem parts_true (C : ConQ) (lim : Int) (l : List It) (A : Option Addr) (n c : Nat) (x : It) (o0 o1 o2 : Int) (w : World) (hs : Std w) (h : Its w (.slice A n c) l) (hi : inI lim) (hx : x.inI) :
    Calls Tryd.prog 3 #[.agg #[.int .i64 lim, .slice A n c], .agg #[.int .i64 x.term, .int .i64 x.round, .int .i64 x.index, .int .i64 x.token], .agg #[.int .i64 o0, .int .i64 o1, .int .i64 o2]] w fun y w' => y = .returned (.bool true) ∧ Below w.heap.size w w' := by
  obtain ⟨W1, g, g2, g3, hW1, hg, hg2, hg3, hbw, hq, hq2, hq3, hsz1⟩ := three_box w (.cells #[.int .i64 lim, .slice A n c] 24) (.cells #[.int .i64 x.term, .int .i64 x.round, .int .i64 x.index, .int .i64 x.token] 26) (.cells #[.int .i64 o0, .int .i64 o1, .int .i64 o2] 27)
  have HW := Lib.hid (And.intro hW1 (And.intro hg (And.intro hg2 hg3)))
  have HE := Lib.hid hbw
  obtain ⟨hn, hnc, hcm⟩ := h.len_
  have HI := Lib.hid (And.intro (h.below hbw) hn)
  have HS := Lib.hid fun W (hW : Below W1.heap.size W1 W) => (hs.below hs.size hbw).below (Nat.le_trans hs.size hbw.size) hW
  have HCL := Lib.hid (show ∀ W, Below W1.heap.size W1 W → (W.cell? ⟨g, 0, none⟩ = some (.int .i64 lim) ∧ W.cell? ⟨g, 1, none⟩ = some (.slice A n c)) ∧ (W.cell? ⟨g2, 0, none⟩ = some (.int .i64 x.term) ∧ W.cell? ⟨g2, 1, none⟩ = some (.int .i64 x.round) ∧ W.cell? ⟨g2, 2, none⟩ = some (.int .i64 x.index) ∧ W.cell? ⟨g2, 3, none⟩ = some (.int .i64 x.token)) ∧ (W.cell? ⟨g3, 0, none⟩ = some (.int .i64 o0) ∧ W.cell? ⟨g3, 1, none⟩ = some (.int .i64 o1) ∧ W.cell? ⟨g3, 2, none⟩ = some (.int .i64 o2)) from fun W hW => ⟨cells2 ((hW.block g (obj_lt hq)).trans hq), cells4 ((hW.block g2 (obj_lt hq2)).trans hq2), cells3 ((hW.block g3 (obj_lt hq3)).trans hq3)⟩)
  obtain ⟨⟨x0, x1⟩, ⟨y0, y1, y2, y3⟩, z0, z1, z2⟩ := HCL.out W1 (Below.refl _ _)
  have in1 : (n : Int) ≤ 9223372036854775807 := by omega
  have CS := Lib.hid fun W => sureQ C W
  by_cases hbig : 300 < (n : Int)
  · clear h hW1 hg hg2 hg3 hbw hq hq2 hq3 hsz1 hn hnc hcm
    go_enter Tryd.func3, Tryd.ntmps3
    go_upto_region 1 with fail
    rw [← HW.out.1, ← HW.out.2.1, ← HW.out.2.2.1, ← HW.out.2.2.2]
    go_wp2_with (go_at_call 5; go_must (refine (CS.out _).mono ?_; rintro y w1 ⟨rfl, hb1⟩; have HB := Lib.hid (HE.out.trans (hb1.mono HE.out.size)); clear hb1))
    go_ret
    exact ⟨rfl, HB.out⟩
  · have hl : l.length ≤ 300 := by omega
    rcases hra : addQ lim l x with ⟨qa, la, ka⟩
    rcases hrt : takeQ lim l (hitQ o0 o1 o2 false) with ⟨qt, lt, zt⟩
    rcases hrf : takeQ lim l (hitQ o0 0 0 true) with ⟨qf, lf, zf⟩
    obtain ⟨ma, hma⟩ : ∃ m, m = la.length := ⟨_, rfl⟩
    obtain ⟨mt, hmt⟩ : ∃ m, m = lt.length := ⟨_, rfl⟩
    obtain ⟨mf, hmf⟩ : ∃ m, m = lf.length := ⟨_, rfl⟩
    obtain ⟨nt, hnt⟩ : ∃ m, m = zt.length := ⟨_, rfl⟩
    obtain ⟨nf, hnf⟩ : ∃ m, m = zf.length := ⟨_, rfl⟩
    have CG := Lib.hid fun W (hW : Below W1.heap.size W1 W) => give_any lim l A n c W (HI.out.1.below hW) (by omega)
    have CA := Lib.hid fun A' c' W (h : Its W (.slice A' n c') l) => C.addI h hi hx (by omega) _ hra.symm ma hma
    have CA' := Lib.hid fun W (hW : Below W1.heap.size W1 W) => Add_ref lim l A n c x W (HI.out.1.below hW) hx (by omega) _ hra.symm ma hma
    have CT := Lib.hid fun A' c' W (h : Its W (.slice A' n c') l) => C.takeI h hi (by omega) _ hrt.symm mt nt hmt hnt
    have CT' := Lib.hid fun W (hW : Below W1.heap.size W1 W) => Take_ref lim l A n c o0 o1 o2 false W (HI.out.1.below hW) (by omega) _ hrt.symm mt nt hmt hnt
    have CF := Lib.hid fun A' c' W (h : Its W (.slice A' n c') l) => C.failI h hi (by omega) _ hrf.symm mf nf hmf hnf
    have CF' := Lib.hid fun W (hW : Below W1.heap.size W1 W) => Take_ref lim l A n c o0 0 0 true W (HI.out.1.below hW) (by omega) _ hrf.symm mf nf hmf hnf
    have CR := Lib.hid fun A' c' W (h : Its W (.slice A' n c') l) => C.qRounds lim l A' n c' o0 W h hi (by omega)
    have CR' := Lib.hid fun W (hW : Below W1.heap.size W1 W) => Rounds_ref lim l A n c o0 W (HI.out.1.below hW) (by omega)
    have CC := Lib.hid fun A' c' W (h : Its W (.slice A' n c') l) => C.qCheck lim l A' n c' W h hi (by omega) _ rfl
    have CM := Lib.hid fun W (hW : Below W1.heap.size W1 W) => May_ref lim l A n c W (HI.out.1.below hW) _ rfl
    have CN := Lib.hid fun W hS => num_any ka W hS
    have KB := Lib.hid (Below.refl W1.heap.size W1)
    clear h hW1 hg hg2 hg3 hbw hq hq2 hq3 hsz1 hn hnc hcm hl hs hra hrt hrf hma hmt hmf hnt hnf
    go_enter Tryd.func3, Tryd.ntmps3
    go_upto_region 1 with fail
    rw [← HW.out.1, ← HW.out.2.1, ← HW.out.2.2.1, ← HW.out.2.2.2]
    go_upto_region 3 with fail
    go_upto_region 4 with (go_at_call 6; go_must (refine (CG.out _ KB.out).mono ?_; rintro y w2 ⟨A7, c7, rfl, hi7, hb⟩; have PI7 := Lib.hid hi7.its; have HP := Lib.hid hb; clear hb hi7))
    obtain ⟨W2, g7, hW, hg, hb, hq, -⟩ := one_box w2 (.cells #[.int .i64 lim, .slice A7 n c7] 31)
    rw [← hW, ← hg]
    have hx2 := HP.out.trans (hb.mono HP.out.size)
    have I7 := Lib.hid (PI7.out.below hb)
    have F7 := Lib.hid hq
    have KB := Lib.hid (KB.out.trans (hx2.mono KB.out.size))
    clear hW hg hb hq hx2 HP PI7 x0 x1 y0 y1 y2 y3 z0 z1 z2
    obtain ⟨⟨x0, x1⟩, ⟨y0, y1, y2, y3⟩, z0, z1, z2⟩ := HCL.out W2 KB.out
    obtain ⟨q0, q1⟩ := cells2 F7.out
    go_upto_region 5 with (go_at_call 7; go_must (refine (CA.out _ _ _ I7.out).mono ?_; rintro y w3 ⟨A8, c8, rfl, hi7, hb⟩; have PI8 := Lib.hid hi7; have HP := Lib.hid hb; clear hb hi7))
    obtain ⟨W3, g8, hW, hg, hb, hq, -⟩ := one_box w3 (.cells #[.int .i64 qa, .slice A8 ma c8] 31)
    rw [← hW, ← hg]
    have hx2 := HP.out.trans (hb.mono HP.out.size)
    have I7 := Lib.hid (I7.out.below hx2)
    have F7 := Lib.hid ((hx2.block g7 (obj_lt F7.out)).trans F7.out)
    have I8 := Lib.hid (PI8.out.below hb)
    have F8 := Lib.hid hq
    have KB := Lib.hid (KB.out.trans (hx2.mono KB.out.size))
    clear hW hg hb hq hx2 HP PI8 x0 x1 y0 y1 y2 y3 z0 z1 z2 q0 q1
    obtain ⟨⟨x0, x1⟩, ⟨y0, y1, y2, y3⟩, z0, z1, z2⟩ := HCL.out W3 KB.out
    go_upto_region 6 with (go_at_call 8; go_must (refine (CA'.out _ KB.out).mono ?_; rintro y w4 ⟨A10, c10, rfl, hi7, hb⟩; have PI10 := Lib.hid hi7; have HP := Lib.hid hb; clear hb hi7))
    obtain ⟨W4, g10, hW, hg, hb, hq, -⟩ := one_box w4 (.cells #[.int .i64 qa, .slice A10 ma c10] 24)
    rw [← hW, ← hg]
    have hx2 := HP.out.trans (hb.mono HP.out.size)
    have I7 := Lib.hid (I7.out.below hx2)
    have F7 := Lib.hid ((hx2.block g7 (obj_lt F7.out)).trans F7.out)
    have I8 := Lib.hid (I8.out.below hx2)
    have F8 := Lib.hid ((hx2.block g8 (obj_lt F8.out)).trans F8.out)
    have I10 := Lib.hid (PI10.out.below hb)
    have F10 := Lib.hid hq
    have KB := Lib.hid (KB.out.trans (hx2.mono KB.out.size))
    clear hW hg hb hq hx2 HP PI10 x0 x1 y0 y1 y2 y3 z0 z1 z2
    obtain ⟨⟨x0, x1⟩, ⟨y0, y1, y2, y3⟩, z0, z1, z2⟩ := HCL.out W4 KB.out
    obtain ⟨q0, q1⟩ := cells2 F7.out
    go_upto_region 7 with (go_at_call 9; go_must (refine (CT.out _ _ _ I7.out).mono ?_; rintro y w5 ⟨A12, c12, A13, c13, rfl, hi7, hi8, hb⟩; have PI12 := Lib.hid hi7; have PI13 := Lib.hid hi8.ints; have HP := Lib.hid hb; clear hb hi7 hi8))
    obtain ⟨W5, g12, hW, hg, hb, hq, -⟩ := one_box w5 (.cells #[.int .i64 qt, .slice A12 mt c12] 31)
    rw [← hW, ← hg]
    have hx2 := HP.out.trans (hb.mono HP.out.size)
    have I7 := Lib.hid (I7.out.below hx2)
    have F7 := Lib.hid ((hx2.block g7 (obj_lt F7.out)).trans F7.out)
    have I8 := Lib.hid (I8.out.below hx2)
    have F8 := Lib.hid ((hx2.block g8 (obj_lt F8.out)).trans F8.out)
    have I10 := Lib.hid (I10.out.below hx2)
    have F10 := Lib.hid ((hx2.block g10 (obj_lt F10.out)).trans F10.out)
    have I12 := Lib.hid (PI12.out.below hb)
    have I13 := Lib.hid (PI13.out.below hb)
    have F12 := Lib.hid hq
    have KB := Lib.hid (KB.out.trans (hx2.mono KB.out.size))
    clear hW hg hb hq hx2 HP PI12 PI13 x0 x1 y0 y1 y2 y3 z0 z1 z2 q0 q1
    obtain ⟨⟨x0, x1⟩, ⟨y0, y1, y2, y3⟩, z0, z1, z2⟩ := HCL.out W5 KB.out
    go_upto_region 8 with (go_at_call 10; go_must (refine (CT'.out _ KB.out).mono ?_; rintro y w6 ⟨A14, c14, A15, c15, rfl, hi7, hi8, hb⟩; have PI14 := Lib.hid hi7; have PI15 := Lib.hid hi8; have HP := Lib.hid hb; clear hb hi7 hi8))
    obtain ⟨W6, g14, hW, hg, hb, hq, -⟩ := one_box w6 (.cells #[.int .i64 qt, .slice A14 mt c14] 24)
    rw [← hW, ← hg]
    have hx2 := HP.out.trans (hb.mono HP.out.size)
    have I7 := Lib.hid (I7.out.below hx2)
    have F7 := Lib.hid ((hx2.block g7 (obj_lt F7.out)).trans F7.out)
    have I8 := Lib.hid (I8.out.below hx2)
    have F8 := Lib.hid ((hx2.block g8 (obj_lt F8.out)).trans F8.out)
    have I10 := Lib.hid (I10.out.below hx2)
    have F10 := Lib.hid ((hx2.block g10 (obj_lt F10.out)).trans F10.out)
    have I12 := Lib.hid (I12.out.below hx2)
    have I13 := Lib.hid (I13.out.below hx2)
    have F12 := Lib.hid ((hx2.block g12 (obj_lt F12.out)).trans F12.out)
    have I14 := Lib.hid (PI14.out.below hb)
    have I15 := Lib.hid (PI15.out.below hb)
    have F14 := Lib.hid hq
    have KB := Lib.hid (KB.out.trans (hx2.mono KB.out.size))
    clear hW hg hb hq hx2 HP PI14 PI15 x0 x1 y0 y1 y2 y3 z0 z1 z2
    obtain ⟨⟨x0, x1⟩, ⟨y0, y1, y2, y3⟩, z0, z1, z2⟩ := HCL.out W6 KB.out
    obtain ⟨q0, q1⟩ := cells2 F7.out
    go_upto_region 9 with (go_at_call 11; go_must (refine (CF.out _ _ _ I7.out).mono ?_; rintro y w7 ⟨A16, c16, A17, c17, rfl, hi7, hi8, hb⟩; have PI16 := Lib.hid hi7; have PI17 := Lib.hid hi8.ints; have HP := Lib.hid hb; clear hb hi7 hi8))
    obtain ⟨W7, g16, hW, hg, hb, hq, -⟩ := one_box w7 (.cells #[.int .i64 qf, .slice A16 mf c16] 31)
    rw [← hW, ← hg]
    have hx2 := HP.out.trans (hb.mono HP.out.size)
    have I7 := Lib.hid (I7.out.below hx2)
    have F7 := Lib.hid ((hx2.block g7 (obj_lt F7.out)).trans F7.out)
    have I8 := Lib.hid (I8.out.below hx2)
    have F8 := Lib.hid ((hx2.block g8 (obj_lt F8.out)).trans F8.out)
    have I10 := Lib.hid (I10.out.below hx2)
    have F10 := Lib.hid ((hx2.block g10 (obj_lt F10.out)).trans F10.out)
    have I12 := Lib.hid (I12.out.below hx2)
    have I13 := Lib.hid (I13.out.below hx2)
    have F12 := Lib.hid ((hx2.block g12 (obj_lt F12.out)).trans F12.out)
    have I14 := Lib.hid (I14.out.below hx2)
    have I15 := Lib.hid (I15.out.below hx2)
    have F14 := Lib.hid ((hx2.block g14 (obj_lt F14.out)).trans F14.out)
    have I16 := Lib.hid (PI16.out.below hb)
    have I17 := Lib.hid (PI17.out.below hb)
    have F16 := Lib.hid hq
    have KB := Lib.hid (KB.out.trans (hx2.mono KB.out.size))
    clear hW hg hb hq hx2 HP PI16 PI17 x0 x1 y0 y1 y2 y3 z0 z1 z2 q0 q1
    obtain ⟨⟨x0, x1⟩, ⟨y0, y1, y2, y3⟩, z0, z1, z2⟩ := HCL.out W7 KB.out
    go_upto_region 10 with (go_at_call 10; go_must (refine (CF'.out _ KB.out).mono ?_; rintro y w8 ⟨A18, c18, A19, c19, rfl, hi7, hi8, hb⟩; have PI18 := Lib.hid hi7; have PI19 := Lib.hid hi8; have HP := Lib.hid hb; clear hb hi7 hi8))
    obtain ⟨W8, g18, hW, hg, hb, hq, -⟩ := one_box w8 (.cells #[.int .i64 qf, .slice A18 mf c18] 24)
    rw [← hW, ← hg]
    have hx2 := HP.out.trans (hb.mono HP.out.size)
    have I7 := Lib.hid (I7.out.below hx2)
    have F7 := Lib.hid ((hx2.block g7 (obj_lt F7.out)).trans F7.out)
    have I8 := Lib.hid (I8.out.below hx2)
    have F8 := Lib.hid ((hx2.block g8 (obj_lt F8.out)).trans F8.out)
    have I10 := Lib.hid (I10.out.below hx2)
    have F10 := Lib.hid ((hx2.block g10 (obj_lt F10.out)).trans F10.out)
    have I12 := Lib.hid (I12.out.below hx2)
    have I13 := Lib.hid (I13.out.below hx2)
    have F12 := Lib.hid ((hx2.block g12 (obj_lt F12.out)).trans F12.out)
    have I14 := Lib.hid (I14.out.below hx2)
    have I15 := Lib.hid (I15.out.below hx2)
    have F14 := Lib.hid ((hx2.block g14 (obj_lt F14.out)).trans F14.out)
    have I16 := Lib.hid (I16.out.below hx2)
    have I17 := Lib.hid (I17.out.below hx2)
    have F16 := Lib.hid ((hx2.block g16 (obj_lt F16.out)).trans F16.out)
    have I18 := Lib.hid (PI18.out.below hb)
    have I19 := Lib.hid (PI19.out.below hb)
    have F18 := Lib.hid hq
    have KB := Lib.hid (KB.out.trans (hx2.mono KB.out.size))
    clear hW hg hb hq hx2 HP PI18 PI19 x0 x1 y0 y1 y2 y3 z0 z1 z2
    have H7 := Lib.hid fun W (hW : Below W8.heap.size W8 W) => cells2 ((hW.block g7 (obj_lt F7.out)).trans F7.out)
    have H8 := Lib.hid fun W (hW : Below W8.heap.size W8 W) => cells2 ((hW.block g8 (obj_lt F8.out)).trans F8.out)
    have H10 := Lib.hid fun W (hW : Below W8.heap.size W8 W) => cells2 ((hW.block g10 (obj_lt F10.out)).trans F10.out)
    have H12 := Lib.hid fun W (hW : Below W8.heap.size W8 W) => cells2 ((hW.block g12 (obj_lt F12.out)).trans F12.out)
    have H14 := Lib.hid fun W (hW : Below W8.heap.size W8 W) => cells2 ((hW.block g14 (obj_lt F14.out)).trans F14.out)
    have H16 := Lib.hid fun W (hW : Below W8.heap.size W8 W) => cells2 ((hW.block g16 (obj_lt F16.out)).trans F16.out)
    have H18 := Lib.hid fun W (hW : Below W8.heap.size W8 W) => cells2 ((hW.block g18 (obj_lt F18.out)).trans F18.out)
    have H3 := Lib.hid fun W (hW : Below W8.heap.size W8 W) => HCL.out W (KB.out.trans (hW.mono KB.out.size))
    have HIQ := Lib.hid fun W (hW : Below W8.heap.size W8 W) => HI.out.1.below (KB.out.trans (hW.mono KB.out.size))
    cases hm : mayQ lim l with
    | true =>
      rw [hm] at CC CM
      simp only [if_true] at CC
      rw [er_zero] at CC
      clear hm
      have hd0 : Below W8.heap.size W8 W8.drew := (Below.refl _ _).drew
      refine wp_region_held_drew (S := fun W => Below W8.heap.size W8 W) (by kernel_rfl) hd0 (fun hHeld => ?_)
      obtain ⟨v0, hv0⟩ : ∃ V, V = W8.drew := ⟨_, rfl⟩
      rw [← hv0] at hd0 hHeld ⊢
      have HB := Lib.hid (Below.refl W8.heap.size W8)
      have HX := Lib.hid hd0
      have HQ := Lib.hid hd0
      clear hd0 hv0
      refine wpAnyH_take (i := 0) (oi := { dst := Option.some 75, op := Op.load 31 (Operand.tmp 7), type := 31, pos := "law.go:79", after := #[], guard := Option.none }) (v := .agg #[.int .i64 lim, .slice A7 n c7]) rfl (by kernel_rfl) (by kernel_rfl) (by kernel_rfl) (fun _ _ _ h => h) (Or.inl ⟨by rfl, ?_⟩) hHeld ?_
      · intro W hSw
        obtain ⟨q0, q1⟩ := H7.out _ (HB.out.trans (hSw.mono HB.out.size))
        go_simp
      simp only [Act.put, List.setIfInBounds_toArray, List.set_cons_zero, List.set_cons_succ]
      refine wpAnyH_take (i := 3) (oi := { dst := Option.some 78, op := Op.load 24 (Operand.tmp 3), type := 24, pos := "law.go:79", after := #[], guard := Option.none }) (v := .agg #[.int .i64 lim, .slice A n c]) rfl (by kernel_rfl) (by kernel_rfl) (by kernel_rfl) (fun _ _ _ h => h) (Or.inl ⟨by rfl, ?_⟩) hHeld ?_
      · intro W hSw
        obtain ⟨⟨x0, x1⟩, -, -⟩ := H3.out _ (HB.out.trans (hSw.mono HB.out.size))
        go_simp
      simp only [Act.put, List.setIfInBounds_toArray, List.set_cons_zero, List.set_cons_succ]
      refine wpAnyH_ready (rs := [1]) (by kernel_rfl) (by simp) ?_
      refine AllReadyH.cons (o := { dst := Option.some 76, op := Op.call { callee := Callee.value (Operand.func 12), args := #[Operand.tmp 75], argTypes := #[31] }, type := 34, pos := "law.go:79", after := #[{ on := 0, ground := Ground.data }], guard := Option.none }) rfl (fun K hK => ?_) AllReadyH.nil
      go_simp
      refine (CC.out _ _ v0 (I7.out.below HQ.out)).mono ?_
      rintro y v101 ⟨rfl, hb⟩
      have hbS := HX.out.trans (hb.mono HX.out.size)
      refine hK.out _ _ hbS (fun hHeld2 => ?_)
      clear hK K hHeld hHeld2
      have HB := Lib.hid (HB.out.trans (hbS.mono HB.out.size))
      have HQ := Lib.hid HB.out
      refine heldStrong (S' := fun W => Below v101.heap.size v101 W) (fun W hW => hbS.trans (hW.mono hbS.size)) _ _ _ _ ?_
      have hHeld : Below v101.heap.size v101 v101 := Below.refl _ _
      have HX := Lib.hid (Below.refl v101.heap.size v101)
      clear hbS hb
      refine wpAnyH_take (i := 2) (oi := { dst := Option.some 77, op := Op.binOp BinOp.eql 34 (Operand.tmp 76) (Operand.const Value.nilIface) 34, type := 4, pos := "law.go:79", after := #[{ on := 1, ground := Ground.data }], guard := Option.none }) (v := .bool true) rfl (by kernel_rfl) (by kernel_rfl) (by kernel_rfl) (fun _ _ _ h => h) (Or.inl ⟨by rfl, ?_⟩) hHeld ?_
      · intro W hSw
        go_simp
      simp only [Act.put, List.setIfInBounds_toArray, List.set_cons_zero, List.set_cons_succ]
      refine wpAnyH_ready (rs := [4]) (by kernel_rfl) (by simp) ?_
      refine AllReadyH.cons (o := { dst := Option.some 79, op := Op.call { callee := Callee.value (Operand.func 13), args := #[Operand.tmp 78], argTypes := #[24] }, type := 4, pos := "law.go:79", after := #[{ on := 3, ground := Ground.data }, { on := 1, ground := Ground.chain }], guard := Option.none }) rfl (fun K hK => ?_) AllReadyH.nil
      go_simp
      refine (CM.out v101 (KB.out.trans (HQ.out.mono KB.out.size))).mono ?_
      rintro y v102 ⟨rfl, hb⟩
      have hbS := HX.out.trans (hb.mono HX.out.size)
      refine hK.out _ _ hbS (fun hHeld2 => ?_)
      clear hK K hHeld hHeld2
      have HB := Lib.hid (HB.out.trans (hbS.mono HB.out.size))
      have HQ := Lib.hid HB.out
      refine heldStrong (S' := fun W => Below v102.heap.size v102 W) (fun W hW => hbS.trans (hW.mono hbS.size)) _ _ _ _ ?_
      have hHeld : Below v102.heap.size v102 v102 := Below.refl _ _
      have HX := Lib.hid (Below.refl v102.heap.size v102)
      clear hbS hb
      refine wpAnyH_take (i := 5) (oi := { dst := Option.some 80, op := Op.binOp BinOp.eql 4 (Operand.tmp 77) (Operand.tmp 79) 4, type := 4, pos := "law.go:79", after := #[{ on := 2, ground := Ground.data }, { on := 4, ground := Ground.data }], guard := Option.none }) (v := .bool true) rfl (by kernel_rfl) (by kernel_rfl) (by kernel_rfl) (fun _ _ _ h => h) (Or.inl ⟨by rfl, ?_⟩) hHeld ?_
      · intro W hSw
        go_simp
      simp only [Act.put, List.setIfInBounds_toArray, List.set_cons_zero, List.set_cons_succ]
      refine wpAnyH_take (i := 6) (oi := { dst := Option.some 81, op := Op.move (Operand.tmp 80), type := 4, pos := "law.go:79", after := #[{ on := 5, ground := Ground.data }, { on := 4, ground := Ground.chain }], guard := Option.none }) (v := .bool true) rfl (by kernel_rfl) (by kernel_rfl) (by kernel_rfl) (fun _ _ _ h => h) (Or.inl ⟨by rfl, ?_⟩) hHeld ?_
      · intro W hSw
        go_simp
      simp only [Act.put, List.setIfInBounds_toArray, List.set_cons_zero, List.set_cons_succ]
      refine wpAnyH_take (i := 7) (oi := { dst := Option.some 82, op := Op.load 31 (Operand.tmp 8), type := 31, pos := "law.go:79", after := #[{ on := 6, ground := Ground.guard }], guard := Option.some (6, true) }) (v := .agg #[.int .i64 qa, .slice A8 ma c8]) rfl (by kernel_rfl) (by kernel_rfl) (by kernel_rfl) (fun _ _ _ h => h) (Or.inl ⟨by rfl, ?_⟩) hHeld ?_
      · intro W hSw
        obtain ⟨q0, q1⟩ := H8.out _ (HB.out.trans (hSw.mono HB.out.size))
        go_simp
      simp only [Act.put, List.setIfInBounds_toArray, List.set_cons_zero, List.set_cons_succ]
      refine wpAnyH_take (i := 8) (oi := { dst := Option.some 83, op := Op.load 24 (Operand.tmp 10), type := 24, pos := "law.go:79", after := #[{ on := 6, ground := Ground.guard }], guard := Option.some (6, true) }) (v := .agg #[.int .i64 qa, .slice A10 ma c10]) rfl (by kernel_rfl) (by kernel_rfl) (by kernel_rfl) (fun _ _ _ h => h) (Or.inl ⟨by rfl, ?_⟩) hHeld ?_
      · intro W hSw
        obtain ⟨q0, q1⟩ := H10.out _ (HB.out.trans (hSw.mono HB.out.size))
        go_simp
      simp only [Act.put, List.setIfInBounds_toArray, List.set_cons_zero, List.set_cons_succ]
      refine wpAnyH_ready (rs := [9]) (by kernel_rfl) (by simp) ?_
      refine AllReadyH.cons (o := { dst := Option.some 84, op := Op.call { callee := Callee.value (Operand.func 14), args := #[Operand.tmp 82, Operand.tmp 83], argTypes := #[31, 24] }, type := 4, pos := "law.go:79", after := #[{ on := 7, ground := Ground.data }, { on := 8, ground := Ground.data }, { on := 6, ground := Ground.chain }, { on := 6, ground := Ground.guard }], guard := Option.some (6, true) }) rfl (fun K hK => ?_) AllReadyH.nil
      go_simp
      refine (same_any qa la A8 ma c8 A10 ma c10 v102 (I8.out.below HQ.out) (I10.out.below HQ.out)).mono ?_
      rintro y v103 ⟨rfl, hb⟩
      have hbS := HX.out.trans (hb.mono HX.out.size)
      refine hK.out _ _ hbS (fun hHeld2 => ?_)
      clear hK K hHeld hHeld2
      have HB := Lib.hid (HB.out.trans (hbS.mono HB.out.size))
      have HQ := Lib.hid HB.out
      refine heldStrong (S' := fun W => Below v103.heap.size v103 W) (fun W hW => hbS.trans (hW.mono hbS.size)) _ _ _ _ ?_
      have hHeld : Below v103.heap.size v103 v103 := Below.refl _ _
      have HX := Lib.hid (Below.refl v103.heap.size v103)
      clear hbS hb
      refine wpAnyH_take (i := 10) (oi := { dst := Option.some 85, op := Op.pick (Operand.tmp 81) (Operand.tmp 84) (Operand.const (Value.bool false)), type := 4, pos := "law.go:79", after := #[{ on := 6, ground := Ground.data }, { on := 9, ground := Ground.data }], guard := Option.none }) (v := .bool true) rfl (by kernel_rfl) (by kernel_rfl) (by kernel_rfl) (fun _ _ _ h => h) (Or.inl ⟨by rfl, ?_⟩) hHeld ?_
      · intro W hSw
        go_simp
      simp only [Act.put, List.setIfInBounds_toArray, List.set_cons_zero, List.set_cons_succ]
      refine wpAnyH_take (i := 11) (oi := { dst := Option.some 86, op := Op.move (Operand.tmp 85), type := 4, pos := "law.go:79", after := #[{ on := 10, ground := Ground.data }, { on := 9, ground := Ground.chain }], guard := Option.none }) (v := .bool true) rfl (by kernel_rfl) (by kernel_rfl) (by kernel_rfl) (fun _ _ _ h => h) (Or.inl ⟨by rfl, ?_⟩) hHeld ?_
      · intro W hSw
        go_simp
      simp only [Act.put, List.setIfInBounds_toArray, List.set_cons_zero, List.set_cons_succ]
      refine wpAnyH_take (i := 12) (oi := { dst := Option.some 87, op := Op.move (Operand.tmp 9), type := 34, pos := "law.go:79", after := #[{ on := 11, ground := Ground.guard }], guard := Option.some (11, true) }) (v := er ka) rfl (by kernel_rfl) (by kernel_rfl) (by kernel_rfl) (fun _ _ _ h => h) (Or.inl ⟨by rfl, ?_⟩) hHeld ?_
      · intro W hSw
        go_simp
      simp only [Act.put, List.setIfInBounds_toArray, List.set_cons_zero, List.set_cons_succ]
      refine wpAnyH_take (i := 14) (oi := { dst := Option.some 89, op := Op.move (Operand.tmp 11), type := 3, pos := "law.go:79", after := #[{ on := 11, ground := Ground.guard }], guard := Option.some (11, true) }) (v := .int .i64 (ka : Int)) rfl (by kernel_rfl) (by kernel_rfl) (by kernel_rfl) (fun _ _ _ h => h) (Or.inl ⟨by rfl, ?_⟩) hHeld ?_
      · intro W hSw
        go_simp
      simp only [Act.put, List.setIfInBounds_toArray, List.set_cons_zero, List.set_cons_succ]
      refine wpAnyH_ready (rs := [13]) (by kernel_rfl) (by simp) ?_
      refine AllReadyH.cons (o := { dst := Option.some 88, op := Op.call { callee := Callee.value (Operand.func 15), args := #[Operand.tmp 87], argTypes := #[34] }, type := 3, pos := "law.go:79", after := #[{ on := 12, ground := Ground.data }, { on := 11, ground := Ground.chain }, { on := 11, ground := Ground.guard }], guard := Option.some (11, true) }) rfl (fun K hK => ?_) AllReadyH.nil
      go_simp
      refine (CN.out v103 (HS.out v103 (KB.out.trans (HQ.out.mono KB.out.size)))).mono ?_
      rintro y v104 ⟨rfl, hb⟩
      have hbS := HX.out.trans (hb.mono HX.out.size)
      refine hK.out _ _ hbS (fun hHeld2 => ?_)
      clear hK K hHeld hHeld2
      have HB := Lib.hid (HB.out.trans (hbS.mono HB.out.size))
      have HQ := Lib.hid HB.out
      refine heldStrong (S' := fun W => Below v104.heap.size v104 W) (fun W hW => hbS.trans (hW.mono hbS.size)) _ _ _ _ ?_
      have hHeld : Below v104.heap.size v104 v104 := Below.refl _ _
      have HX := Lib.hid (Below.refl v104.heap.size v104)
      clear hbS hb
      refine wpAnyH_take (i := 15) (oi := { dst := Option.some 90, op := Op.binOp BinOp.eql 3 (Operand.tmp 88) (Operand.tmp 89) 3, type := 4, pos := "law.go:79", after := #[{ on := 13, ground := Ground.data }, { on := 14, ground := Ground.data }, { on := 11, ground := Ground.guard }], guard := Option.some (11, true) }) (v := .bool true) rfl (by kernel_rfl) (by kernel_rfl) (by kernel_rfl) (fun _ _ _ h => h) (Or.inl ⟨by rfl, ?_⟩) hHeld ?_
      · intro W hSw
        go_simp
      simp only [Act.put, List.setIfInBounds_toArray, List.set_cons_zero, List.set_cons_succ]
      refine wpAnyH_take (i := 16) (oi := { dst := Option.some 91, op := Op.pick (Operand.tmp 86) (Operand.tmp 90) (Operand.const (Value.bool false)), type := 4, pos := "law.go:79", after := #[{ on := 11, ground := Ground.data }, { on := 15, ground := Ground.data }], guard := Option.none }) (v := .bool true) rfl (by kernel_rfl) (by kernel_rfl) (by kernel_rfl) (fun _ _ _ h => h) (Or.inl ⟨by rfl, ?_⟩) hHeld ?_
      · intro W hSw
        go_simp
      simp only [Act.put, List.setIfInBounds_toArray, List.set_cons_zero, List.set_cons_succ]
      refine wpAnyH_take (i := 17) (oi := { dst := Option.some 92, op := Op.move (Operand.tmp 91), type := 4, pos := "law.go:79", after := #[{ on := 16, ground := Ground.data }, { on := 13, ground := Ground.chain }], guard := Option.none }) (v := .bool true) rfl (by kernel_rfl) (by kernel_rfl) (by kernel_rfl) (fun _ _ _ h => h) (Or.inl ⟨by rfl, ?_⟩) hHeld ?_
      · intro W hSw
        go_simp
      simp only [Act.put, List.setIfInBounds_toArray, List.set_cons_zero, List.set_cons_succ]
      refine wpAnyH_take (i := 18) (oi := { dst := Option.some 93, op := Op.load 31 (Operand.tmp 12), type := 31, pos := "law.go:79", after := #[{ on := 17, ground := Ground.guard }], guard := Option.some (17, true) }) (v := .agg #[.int .i64 qt, .slice A12 mt c12]) rfl (by kernel_rfl) (by kernel_rfl) (by kernel_rfl) (fun _ _ _ h => h) (Or.inl ⟨by rfl, ?_⟩) hHeld ?_
      · intro W hSw
        obtain ⟨q0, q1⟩ := H12.out _ (HB.out.trans (hSw.mono HB.out.size))
        go_simp
      simp only [Act.put, List.setIfInBounds_toArray, List.set_cons_zero, List.set_cons_succ]
      refine wpAnyH_take (i := 19) (oi := { dst := Option.some 94, op := Op.load 24 (Operand.tmp 14), type := 24, pos := "law.go:79", after := #[{ on := 17, ground := Ground.guard }], guard := Option.some (17, true) }) (v := .agg #[.int .i64 qt, .slice A14 mt c14]) rfl (by kernel_rfl) (by kernel_rfl) (by kernel_rfl) (fun _ _ _ h => h) (Or.inl ⟨by rfl, ?_⟩) hHeld ?_
      · intro W hSw
        obtain ⟨q0, q1⟩ := H14.out _ (HB.out.trans (hSw.mono HB.out.size))
        go_simp
      simp only [Act.put, List.setIfInBounds_toArray, List.set_cons_zero, List.set_cons_succ]
      refine wpAnyH_ready (rs := [20]) (by kernel_rfl) (by simp) ?_
      refine AllReadyH.cons (o := { dst := Option.some 95, op := Op.call { callee := Callee.value (Operand.func 14), args := #[Operand.tmp 93, Operand.tmp 94], argTypes := #[31, 24] }, type := 4, pos := "law.go:79", after := #[{ on := 18, ground := Ground.data }, { on := 19, ground := Ground.data }, { on := 17, ground := Ground.chain }, { on := 17, ground := Ground.guard }], guard := Option.some (17, true) }) rfl (fun K hK => ?_) AllReadyH.nil
      go_simp
      refine (same_any qt lt A12 mt c12 A14 mt c14 v104 (I12.out.below HQ.out) (I14.out.below HQ.out)).mono ?_
      rintro y v105 ⟨rfl, hb⟩
      have hbS := HX.out.trans (hb.mono HX.out.size)
      refine hK.out _ _ hbS (fun hHeld2 => ?_)
      clear hK K hHeld hHeld2
      have HB := Lib.hid (HB.out.trans (hbS.mono HB.out.size))
      have HQ := Lib.hid HB.out
      refine heldStrong (S' := fun W => Below v105.heap.size v105 W) (fun W hW => hbS.trans (hW.mono hbS.size)) _ _ _ _ ?_
      have hHeld : Below v105.heap.size v105 v105 := Below.refl _ _
      have HX := Lib.hid (Below.refl v105.heap.size v105)
      clear hbS hb
      refine wpAnyH_take (i := 21) (oi := { dst := Option.some 96, op := Op.pick (Operand.tmp 92) (Operand.tmp 95) (Operand.const (Value.bool false)), type := 4, pos := "law.go:79", after := #[{ on := 17, ground := Ground.data }, { on := 20, ground := Ground.data }], guard := Option.none }) (v := .bool true) rfl (by kernel_rfl) (by kernel_rfl) (by kernel_rfl) (fun _ _ _ h => h) (Or.inl ⟨by rfl, ?_⟩) hHeld ?_
      · intro W hSw
        go_simp
      simp only [Act.put, List.setIfInBounds_toArray, List.set_cons_zero, List.set_cons_succ]
      refine wpAnyH_take (i := 22) (oi := { dst := Option.some 97, op := Op.move (Operand.tmp 96), type := 4, pos := "law.go:79", after := #[{ on := 21, ground := Ground.data }, { on := 20, ground := Ground.chain }], guard := Option.none }) (v := .bool true) rfl (by kernel_rfl) (by kernel_rfl) (by kernel_rfl) (fun _ _ _ h => h) (Or.inl ⟨by rfl, ?_⟩) hHeld ?_
      · intro W hSw
        go_simp
      simp only [Act.put, List.setIfInBounds_toArray, List.set_cons_zero, List.set_cons_succ]
      refine wpAnyH_take (i := 23) (oi := { dst := Option.some 98, op := Op.move (Operand.tmp 13), type := 40, pos := "law.go:79", after := #[{ on := 22, ground := Ground.guard }], guard := Option.some (22, true) }) (v := .slice A13 nt c13) rfl (by kernel_rfl) (by kernel_rfl) (by kernel_rfl) (fun _ _ _ h => h) (Or.inl ⟨by rfl, ?_⟩) hHeld ?_
      · intro W hSw
        go_simp
      simp only [Act.put, List.setIfInBounds_toArray, List.set_cons_zero, List.set_cons_succ]
      refine wpAnyH_take (i := 24) (oi := { dst := Option.some 99, op := Op.move (Operand.tmp 15), type := 40, pos := "law.go:79", after := #[{ on := 22, ground := Ground.guard }], guard := Option.some (22, true) }) (v := .slice A15 nt c15) rfl (by kernel_rfl) (by kernel_rfl) (by kernel_rfl) (fun _ _ _ h => h) (Or.inl ⟨by rfl, ?_⟩) hHeld ?_
      · intro W hSw
        go_simp
      simp only [Act.put, List.setIfInBounds_toArray, List.set_cons_zero, List.set_cons_succ]
      refine wpAnyH_ready (rs := [25]) (by kernel_rfl) (by simp) ?_
      refine AllReadyH.cons (o := { dst := Option.some 100, op := Op.call { callee := Callee.value (Operand.func 16), args := #[Operand.tmp 98, Operand.tmp 99], argTypes := #[40, 40] }, type := 4, pos := "law.go:79", after := #[{ on := 23, ground := Ground.data }, { on := 24, ground := Ground.data }, { on := 22, ground := Ground.chain }, { on := 22, ground := Ground.guard }], guard := Option.some (22, true) }) rfl (fun K hK => ?_) AllReadyH.nil
      go_simp
      refine (ints_any A13 nt c13 zt A15 nt c15 zt v105 (I13.out.below HQ.out) (I15.out.below HQ.out) true (decide_eq_true rfl).symm).mono ?_
      rintro y v106 ⟨rfl, hb⟩
      have hbS := HX.out.trans (hb.mono HX.out.size)
      refine hK.out _ _ hbS (fun hHeld2 => ?_)
      clear hK K hHeld hHeld2
      have HB := Lib.hid (HB.out.trans (hbS.mono HB.out.size))
      have HQ := Lib.hid HB.out
      refine heldStrong (S' := fun W => Below v106.heap.size v106 W) (fun W hW => hbS.trans (hW.mono hbS.size)) _ _ _ _ ?_
      have hHeld : Below v106.heap.size v106 v106 := Below.refl _ _
      have HX := Lib.hid (Below.refl v106.heap.size v106)
      clear hbS hb
      refine wpAnyH_take (i := 26) (oi := { dst := Option.some 101, op := Op.pick (Operand.tmp 97) (Operand.tmp 100) (Operand.const (Value.bool false)), type := 4, pos := "law.go:79", after := #[{ on := 22, ground := Ground.data }, { on := 25, ground := Ground.data }], guard := Option.none }) (v := .bool true) rfl (by kernel_rfl) (by kernel_rfl) (by kernel_rfl) (fun _ _ _ h => h) (Or.inl ⟨by rfl, ?_⟩) hHeld ?_
      · intro W hSw
        go_simp
      simp only [Act.put, List.setIfInBounds_toArray, List.set_cons_zero, List.set_cons_succ]
      refine wpAnyH_take (i := 27) (oi := { dst := Option.some 102, op := Op.move (Operand.tmp 101), type := 4, pos := "law.go:79", after := #[{ on := 26, ground := Ground.data }, { on := 25, ground := Ground.chain }], guard := Option.none }) (v := .bool true) rfl (by kernel_rfl) (by kernel_rfl) (by kernel_rfl) (fun _ _ _ h => h) (Or.inl ⟨by rfl, ?_⟩) hHeld ?_
      · intro W hSw
        go_simp
      simp only [Act.put, List.setIfInBounds_toArray, List.set_cons_zero, List.set_cons_succ]
      refine wpAnyH_take (i := 28) (oi := { dst := Option.some 103, op := Op.load 31 (Operand.tmp 16), type := 31, pos := "law.go:79", after := #[{ on := 27, ground := Ground.guard }], guard := Option.some (27, true) }) (v := .agg #[.int .i64 qf, .slice A16 mf c16]) rfl (by kernel_rfl) (by kernel_rfl) (by kernel_rfl) (fun _ _ _ h => h) (Or.inl ⟨by rfl, ?_⟩) hHeld ?_
      · intro W hSw
        obtain ⟨q0, q1⟩ := H16.out _ (HB.out.trans (hSw.mono HB.out.size))
        go_simp
      simp only [Act.put, List.setIfInBounds_toArray, List.set_cons_zero, List.set_cons_succ]
      refine wpAnyH_take (i := 29) (oi := { dst := Option.some 104, op := Op.load 24 (Operand.tmp 18), type := 24, pos := "law.go:79", after := #[{ on := 27, ground := Ground.guard }], guard := Option.some (27, true) }) (v := .agg #[.int .i64 qf, .slice A18 mf c18]) rfl (by kernel_rfl) (by kernel_rfl) (by kernel_rfl) (fun _ _ _ h => h) (Or.inl ⟨by rfl, ?_⟩) hHeld ?_
      · intro W hSw
        obtain ⟨q0, q1⟩ := H18.out _ (HB.out.trans (hSw.mono HB.out.size))
        go_simp
      simp only [Act.put, List.setIfInBounds_toArray, List.set_cons_zero, List.set_cons_succ]
      refine wpAnyH_ready (rs := [30]) (by kernel_rfl) (by simp) ?_
      refine AllReadyH.cons (o := { dst := Option.some 105, op := Op.call { callee := Callee.value (Operand.func 14), args := #[Operand.tmp 103, Operand.tmp 104], argTypes := #[31, 24] }, type := 4, pos := "law.go:79", after := #[{ on := 28, ground := Ground.data }, { on := 29, ground := Ground.data }, { on := 27, ground := Ground.chain }, { on := 27, ground := Ground.guard }], guard := Option.some (27, true) }) rfl (fun K hK => ?_) AllReadyH.nil
      go_simp
      refine (same_any qf lf A16 mf c16 A18 mf c18 v106 (I16.out.below HQ.out) (I18.out.below HQ.out)).mono ?_
      rintro y v107 ⟨rfl, hb⟩
      have hbS := HX.out.trans (hb.mono HX.out.size)
      refine hK.out _ _ hbS (fun hHeld2 => ?_)
      clear hK K hHeld hHeld2
      have HB := Lib.hid (HB.out.trans (hbS.mono HB.out.size))
      have HQ := Lib.hid HB.out
      refine heldStrong (S' := fun W => Below v107.heap.size v107 W) (fun W hW => hbS.trans (hW.mono hbS.size)) _ _ _ _ ?_
      have hHeld : Below v107.heap.size v107 v107 := Below.refl _ _
      have HX := Lib.hid (Below.refl v107.heap.size v107)
      clear hbS hb
      refine wpAnyH_take (i := 31) (oi := { dst := Option.some 106, op := Op.pick (Operand.tmp 102) (Operand.tmp 105) (Operand.const (Value.bool false)), type := 4, pos := "law.go:79", after := #[{ on := 27, ground := Ground.data }, { on := 30, ground := Ground.data }], guard := Option.none }) (v := .bool true) rfl (by kernel_rfl) (by kernel_rfl) (by kernel_rfl) (fun _ _ _ h => h) (Or.inl ⟨by rfl, ?_⟩) hHeld ?_
      · intro W hSw
        go_simp
      simp only [Act.put, List.setIfInBounds_toArray, List.set_cons_zero, List.set_cons_succ]
      refine wpAnyH_take (i := 32) (oi := { dst := Option.some 107, op := Op.move (Operand.tmp 106), type := 4, pos := "law.go:79", after := #[{ on := 31, ground := Ground.data }, { on := 30, ground := Ground.chain }], guard := Option.none }) (v := .bool true) rfl (by kernel_rfl) (by kernel_rfl) (by kernel_rfl) (fun _ _ _ h => h) (Or.inl ⟨by rfl, ?_⟩) hHeld ?_
      · intro W hSw
        go_simp
      simp only [Act.put, List.setIfInBounds_toArray, List.set_cons_zero, List.set_cons_succ]
      refine wpAnyH_take (i := 33) (oi := { dst := Option.some 108, op := Op.move (Operand.tmp 17), type := 40, pos := "law.go:79", after := #[{ on := 32, ground := Ground.guard }], guard := Option.some (32, true) }) (v := .slice A17 nf c17) rfl (by kernel_rfl) (by kernel_rfl) (by kernel_rfl) (fun _ _ _ h => h) (Or.inl ⟨by rfl, ?_⟩) hHeld ?_
      · intro W hSw
        go_simp
      simp only [Act.put, List.setIfInBounds_toArray, List.set_cons_zero, List.set_cons_succ]
      refine wpAnyH_take (i := 34) (oi := { dst := Option.some 109, op := Op.move (Operand.tmp 19), type := 40, pos := "law.go:79", after := #[{ on := 32, ground := Ground.guard }], guard := Option.some (32, true) }) (v := .slice A19 nf c19) rfl (by kernel_rfl) (by kernel_rfl) (by kernel_rfl) (fun _ _ _ h => h) (Or.inl ⟨by rfl, ?_⟩) hHeld ?_
      · intro W hSw
        go_simp
      simp only [Act.put, List.setIfInBounds_toArray, List.set_cons_zero, List.set_cons_succ]
      refine wpAnyH_ready (rs := [35]) (by kernel_rfl) (by simp) ?_
      refine AllReadyH.cons (o := { dst := Option.some 110, op := Op.call { callee := Callee.value (Operand.func 16), args := #[Operand.tmp 108, Operand.tmp 109], argTypes := #[40, 40] }, type := 4, pos := "law.go:79", after := #[{ on := 33, ground := Ground.data }, { on := 34, ground := Ground.data }, { on := 32, ground := Ground.chain }, { on := 32, ground := Ground.guard }], guard := Option.some (32, true) }) rfl (fun K hK => ?_) AllReadyH.nil
      go_simp
      refine (ints_any A17 nf c17 zf A19 nf c19 zf v107 (I17.out.below HQ.out) (I19.out.below HQ.out) true (decide_eq_true rfl).symm).mono ?_
      rintro y v108 ⟨rfl, hb⟩
      have hbS := HX.out.trans (hb.mono HX.out.size)
      refine hK.out _ _ hbS (fun hHeld2 => ?_)
      clear hK K hHeld hHeld2
      have HB := Lib.hid (HB.out.trans (hbS.mono HB.out.size))
      have HQ := Lib.hid HB.out
      refine heldStrong (S' := fun W => Below v108.heap.size v108 W) (fun W hW => hbS.trans (hW.mono hbS.size)) _ _ _ _ ?_
      have hHeld : Below v108.heap.size v108 v108 := Below.refl _ _
      have HX := Lib.hid (Below.refl v108.heap.size v108)
      clear hbS hb
      refine wpAnyH_take (i := 36) (oi := { dst := Option.some 111, op := Op.pick (Operand.tmp 107) (Operand.tmp 110) (Operand.const (Value.bool false)), type := 4, pos := "law.go:79", after := #[{ on := 32, ground := Ground.data }, { on := 35, ground := Ground.data }], guard := Option.none }) (v := .bool true) rfl (by kernel_rfl) (by kernel_rfl) (by kernel_rfl) (fun _ _ _ h => h) (Or.inl ⟨by rfl, ?_⟩) hHeld ?_
      · intro W hSw
        go_simp
      simp only [Act.put, List.setIfInBounds_toArray, List.set_cons_zero, List.set_cons_succ]
      refine wpAnyH_take (i := 37) (oi := { dst := Option.some 112, op := Op.move (Operand.tmp 111), type := 4, pos := "law.go:79", after := #[{ on := 36, ground := Ground.data }, { on := 35, ground := Ground.chain }], guard := Option.none }) (v := .bool true) rfl (by kernel_rfl) (by kernel_rfl) (by kernel_rfl) (fun _ _ _ h => h) (Or.inl ⟨by rfl, ?_⟩) hHeld ?_
      · intro W hSw
        go_simp
      simp only [Act.put, List.setIfInBounds_toArray, List.set_cons_zero, List.set_cons_succ]
      refine wpAnyH_take (i := 38) (oi := { dst := Option.some 113, op := Op.load 31 (Operand.tmp 7), type := 31, pos := "law.go:79", after := #[{ on := 37, ground := Ground.guard }], guard := Option.some (37, true) }) (v := .agg #[.int .i64 lim, .slice A7 n c7]) rfl (by kernel_rfl) (by kernel_rfl) (by kernel_rfl) (fun _ _ _ h => h) (Or.inl ⟨by rfl, ?_⟩) hHeld ?_
      · intro W hSw
        obtain ⟨q0, q1⟩ := H7.out _ (HB.out.trans (hSw.mono HB.out.size))
        go_simp
      simp only [Act.put, List.setIfInBounds_toArray, List.set_cons_zero, List.set_cons_succ]
      refine wpAnyH_take (i := 39) (oi := { dst := Option.some 114, op := Op.indexAddr 27 (Operand.tmp 5) (Operand.const (Value.int IntKind.i64 0)), type := 0, pos := "law.go:79", after := #[{ on := 37, ground := Ground.guard }], guard := Option.some (37, true) }) (v := .pointer (some ⟨g3, 0, none⟩)) rfl (by kernel_rfl) (by kernel_rfl) (by kernel_rfl) (fun _ _ _ h => h) (Or.inl ⟨by rfl, ?_⟩) hHeld ?_
      · intro W hSw
        obtain ⟨-, -, z0, z1, z2⟩ := H3.out _ (HB.out.trans (hSw.mono HB.out.size))
        go_simp
      simp only [Act.put, List.setIfInBounds_toArray, List.set_cons_zero, List.set_cons_succ]
      refine wpAnyH_take (i := 40) (oi := { dst := Option.some 115, op := Op.load 3 (Operand.tmp 114), type := 3, pos := "law.go:79", after := #[{ on := 39, ground := Ground.data }, { on := 37, ground := Ground.guard }], guard := Option.some (37, true) }) (v := .int .i64 o0) rfl (by kernel_rfl) (by kernel_rfl) (by kernel_rfl) (fun _ _ _ h => h) (Or.inl ⟨by rfl, ?_⟩) hHeld ?_
      · intro W hSw
        obtain ⟨-, -, z0, z1, z2⟩ := H3.out _ (HB.out.trans (hSw.mono HB.out.size))
        go_simp
      simp only [Act.put, List.setIfInBounds_toArray, List.set_cons_zero, List.set_cons_succ]
      refine wpAnyH_take (i := 42) (oi := { dst := Option.some 117, op := Op.load 24 (Operand.tmp 3), type := 24, pos := "law.go:79", after := #[{ on := 37, ground := Ground.guard }], guard := Option.some (37, true) }) (v := .agg #[.int .i64 lim, .slice A n c]) rfl (by kernel_rfl) (by kernel_rfl) (by kernel_rfl) (fun _ _ _ h => h) (Or.inl ⟨by rfl, ?_⟩) hHeld ?_
      · intro W hSw
        obtain ⟨⟨x0, x1⟩, -, -⟩ := H3.out _ (HB.out.trans (hSw.mono HB.out.size))
        go_simp
      simp only [Act.put, List.setIfInBounds_toArray, List.set_cons_zero, List.set_cons_succ]
      refine wpAnyH_take (i := 43) (oi := { dst := Option.some 118, op := Op.indexAddr 27 (Operand.tmp 5) (Operand.const (Value.int IntKind.i64 0)), type := 0, pos := "law.go:79", after := #[{ on := 37, ground := Ground.guard }], guard := Option.some (37, true) }) (v := .pointer (some ⟨g3, 0, none⟩)) rfl (by kernel_rfl) (by kernel_rfl) (by kernel_rfl) (fun _ _ _ h => h) (Or.inl ⟨by rfl, ?_⟩) hHeld ?_
      · intro W hSw
        obtain ⟨-, -, z0, z1, z2⟩ := H3.out _ (HB.out.trans (hSw.mono HB.out.size))
        go_simp
      simp only [Act.put, List.setIfInBounds_toArray, List.set_cons_zero, List.set_cons_succ]
      refine wpAnyH_take (i := 44) (oi := { dst := Option.some 119, op := Op.load 3 (Operand.tmp 118), type := 3, pos := "law.go:79", after := #[{ on := 43, ground := Ground.data }, { on := 37, ground := Ground.guard }], guard := Option.some (37, true) }) (v := .int .i64 o0) rfl (by kernel_rfl) (by kernel_rfl) (by kernel_rfl) (fun _ _ _ h => h) (Or.inl ⟨by rfl, ?_⟩) hHeld ?_
      · intro W hSw
        obtain ⟨-, -, z0, z1, z2⟩ := H3.out _ (HB.out.trans (hSw.mono HB.out.size))
        go_simp
      simp only [Act.put, List.setIfInBounds_toArray, List.set_cons_zero, List.set_cons_succ]
      refine wpAnyH_ready (rs := [41]) (by kernel_rfl) (by simp) ?_
      refine AllReadyH.cons (o := { dst := Option.some 116, op := Op.call { callee := Callee.value (Operand.func 17), args := #[Operand.tmp 113, Operand.tmp 115], argTypes := #[31, 3] }, type := 40, pos := "law.go:79", after := #[{ on := 38, ground := Ground.data }, { on := 40, ground := Ground.data }, { on := 37, ground := Ground.chain }, { on := 37, ground := Ground.guard }], guard := Option.some (37, true) }) rfl (fun K hK => ?_) AllReadyH.nil
      go_simp
      refine (CR.out _ _ v108 (I7.out.below HQ.out)).mono ?_
      rintro y v109 ⟨r1, A20, k20, c20, rfl, hk1, hr1, hi1, hb⟩
      have HR1 := Lib.hid hr1
      clear hk1 hr1
      have hbS := HX.out.trans (hb.mono HX.out.size)
      refine hK.out _ _ hbS (fun hHeld2 => ?_)
      clear hK K hHeld hHeld2
      have E20 := Lib.hid (hi1)
      have HB := Lib.hid (HB.out.trans (hbS.mono HB.out.size))
      have HQ := Lib.hid HB.out
      refine heldStrong (S' := fun W => Below v109.heap.size v109 W) (fun W hW => hbS.trans (hW.mono hbS.size)) _ _ _ _ ?_
      have hHeld : Below v109.heap.size v109 v109 := Below.refl _ _
      have HX := Lib.hid (Below.refl v109.heap.size v109)
      clear hbS hb
      clear hi1
      refine wpAnyH_ready (rs := [45]) (by kernel_rfl) (by simp) ?_
      refine AllReadyH.cons (o := { dst := Option.some 120, op := Op.call { callee := Callee.value (Operand.func 18), args := #[Operand.tmp 117, Operand.tmp 119], argTypes := #[24, 3] }, type := 40, pos := "law.go:79", after := #[{ on := 42, ground := Ground.data }, { on := 44, ground := Ground.data }, { on := 41, ground := Ground.chain }, { on := 37, ground := Ground.guard }], guard := Option.some (37, true) }) rfl (fun K hK => ?_) AllReadyH.nil
      go_simp
      refine (CR'.out v109 (KB.out.trans (HQ.out.mono KB.out.size))).mono ?_
      rintro y v110 ⟨r2, A21, k21, c21, rfl, hk1, hr1, hi1, hb⟩
      obtain rfl := rounds_same hr1 HR1.out
      clear hk1 hr1
      have hbS := HX.out.trans (hb.mono HX.out.size)
      refine hK.out _ _ hbS (fun hHeld2 => ?_)
      clear hK K hHeld hHeld2
      have E20 := Lib.hid (E20.out.below hbS)
      have E21 := Lib.hid (hi1)
      have HB := Lib.hid (HB.out.trans (hbS.mono HB.out.size))
      have HQ := Lib.hid HB.out
      refine heldStrong (S' := fun W => Below v110.heap.size v110 W) (fun W hW => hbS.trans (hW.mono hbS.size)) _ _ _ _ ?_
      have hHeld : Below v110.heap.size v110 v110 := Below.refl _ _
      have HX := Lib.hid (Below.refl v110.heap.size v110)
      clear hbS hb
      clear hi1
      refine wpAnyH_ready (rs := [46]) (by kernel_rfl) (by simp) ?_
      refine AllReadyH.cons (o := { dst := Option.some 121, op := Op.call { callee := Callee.value (Operand.func 16), args := #[Operand.tmp 116, Operand.tmp 120], argTypes := #[40, 40] }, type := 4, pos := "law.go:79", after := #[{ on := 41, ground := Ground.data }, { on := 45, ground := Ground.data }, { on := 45, ground := Ground.chain }, { on := 37, ground := Ground.guard }], guard := Option.some (37, true) }) rfl (fun K hK => ?_) AllReadyH.nil
      go_simp
      refine (ints_any A20 k20 c20 r2 A21 k21 c21 r2 v110 E20.out E21.out true (decide_eq_true rfl).symm).mono ?_
      rintro y v111 ⟨rfl, hb⟩
      have hbS := HX.out.trans (hb.mono HX.out.size)
      refine hK.out _ _ hbS (fun hHeld2 => ?_)
      clear hK K hHeld hHeld2
      have E20 := Lib.hid (E20.out.below hbS)
      have E21 := Lib.hid (E21.out.below hbS)
      have HB := Lib.hid (HB.out.trans (hbS.mono HB.out.size))
      have HQ := Lib.hid HB.out
      refine heldStrong (S' := fun W => Below v111.heap.size v111 W) (fun W hW => hbS.trans (hW.mono hbS.size)) _ _ _ _ ?_
      have hHeld : Below v111.heap.size v111 v111 := Below.refl _ _
      have HX := Lib.hid (Below.refl v111.heap.size v111)
      clear hbS hb
      refine wpAnyH_take (i := 47) (oi := { dst := Option.some 122, op := Op.pick (Operand.tmp 112) (Operand.tmp 121) (Operand.const (Value.bool false)), type := 4, pos := "law.go:79", after := #[{ on := 37, ground := Ground.data }, { on := 46, ground := Ground.data }], guard := Option.none }) (v := .bool true) rfl (by kernel_rfl) (by kernel_rfl) (by kernel_rfl) (fun _ _ _ h => h) (Or.inl ⟨by rfl, ?_⟩) hHeld ?_
      · intro W hSw
        go_simp
      simp only [Act.put, List.setIfInBounds_toArray, List.set_cons_zero, List.set_cons_succ]
      refine wpAnyH_take (i := 48) (oi := { dst := Option.some 123, op := Op.move (Operand.tmp 122), type := 4, pos := "law.go:79", after := #[{ on := 47, ground := Ground.data }, { on := 46, ground := Ground.chain }], guard := Option.none }) (v := .bool true) rfl (by kernel_rfl) (by kernel_rfl) (by kernel_rfl) (fun _ _ _ h => h) (Or.inl ⟨by rfl, ?_⟩) hHeld ?_
      · intro W hSw
        go_simp
      simp only [Act.put, List.setIfInBounds_toArray, List.set_cons_zero, List.set_cons_succ]
      refine wpAnyH_take (i := 49) (oi := { dst := Option.some 124, op := Op.load 31 (Operand.tmp 7), type := 31, pos := "law.go:79", after := #[{ on := 48, ground := Ground.guard }], guard := Option.some (48, true) }) (v := .agg #[.int .i64 lim, .slice A7 n c7]) rfl (by kernel_rfl) (by kernel_rfl) (by kernel_rfl) (fun _ _ _ h => h) (Or.inl ⟨by rfl, ?_⟩) hHeld ?_
      · intro W hSw
        obtain ⟨q0, q1⟩ := H7.out _ (HB.out.trans (hSw.mono HB.out.size))
        go_simp
      simp only [Act.put, List.setIfInBounds_toArray, List.set_cons_zero, List.set_cons_succ]
      refine wpAnyH_take (i := 50) (oi := { dst := Option.some 125, op := Op.load 24 (Operand.tmp 3), type := 24, pos := "law.go:79", after := #[{ on := 48, ground := Ground.guard }], guard := Option.some (48, true) }) (v := .agg #[.int .i64 lim, .slice A n c]) rfl (by kernel_rfl) (by kernel_rfl) (by kernel_rfl) (fun _ _ _ h => h) (Or.inl ⟨by rfl, ?_⟩) hHeld ?_
      · intro W hSw
        obtain ⟨⟨x0, x1⟩, -, -⟩ := H3.out _ (HB.out.trans (hSw.mono HB.out.size))
        go_simp
      simp only [Act.put, List.setIfInBounds_toArray, List.set_cons_zero, List.set_cons_succ]
      refine wpAnyH_ready (rs := [51]) (by kernel_rfl) (by simp) ?_
      refine AllReadyH.cons (o := { dst := Option.some 126, op := Op.call { callee := Callee.value (Operand.func 14), args := #[Operand.tmp 124, Operand.tmp 125], argTypes := #[31, 24] }, type := 4, pos := "law.go:79", after := #[{ on := 49, ground := Ground.data }, { on := 50, ground := Ground.data }, { on := 48, ground := Ground.chain }, { on := 48, ground := Ground.guard }], guard := Option.some (48, true) }) rfl (fun K hK => ?_) AllReadyH.nil
      go_simp
      refine (same_any lim l A7 n c7 A n c v111 (I7.out.below HQ.out) (HIQ.out v111 HQ.out)).mono ?_
      rintro y v112 ⟨rfl, hb⟩
      have hbS := HX.out.trans (hb.mono HX.out.size)
      refine hK.out _ _ hbS (fun hHeld2 => ?_)
      clear hK K hHeld hHeld2
      have E20 := Lib.hid (E20.out.below hbS)
      have E21 := Lib.hid (E21.out.below hbS)
      have HB := Lib.hid (HB.out.trans (hbS.mono HB.out.size))
      have HQ := Lib.hid HB.out
      refine heldStrong (S' := fun W => Below v112.heap.size v112 W) (fun W hW => hbS.trans (hW.mono hbS.size)) _ _ _ _ ?_
      have hHeld : Below v112.heap.size v112 v112 := Below.refl _ _
      have HX := Lib.hid (Below.refl v112.heap.size v112)
      clear hbS hb
      refine wpAnyH_take (i := 52) (oi := { dst := Option.some 127, op := Op.pick (Operand.tmp 123) (Operand.tmp 126) (Operand.const (Value.bool false)), type := 4, pos := "law.go:79", after := #[{ on := 48, ground := Ground.data }, { on := 51, ground := Ground.data }], guard := Option.none }) (v := .bool true) rfl (by kernel_rfl) (by kernel_rfl) (by kernel_rfl) (fun _ _ _ h => h) (Or.inl ⟨by rfl, ?_⟩) hHeld ?_
      · intro W hSw
        go_simp
      simp only [Act.put, List.setIfInBounds_toArray, List.set_cons_zero, List.set_cons_succ]
      refine wpAnyH_take (i := 53) (oi := { dst := Option.some 128, op := Op.move (Operand.tmp 127), type := 4, pos := "law.go:79", after := #[{ on := 52, ground := Ground.data }, { on := 51, ground := Ground.chain }], guard := Option.none }) (v := .bool true) rfl (by kernel_rfl) (by kernel_rfl) (by kernel_rfl) (fun _ _ _ h => h) (Or.inl ⟨by rfl, ?_⟩) hHeld ?_
      · intro W hSw
        go_simp
      simp only [Act.put, List.setIfInBounds_toArray, List.set_cons_zero, List.set_cons_succ]
      refine wpAnyH_ready (rs := [54]) (by kernel_rfl) (by simp) ?_
      refine AllReadyH.cons (o := { dst := Option.some 129, op := Op.call { callee := Callee.value (Operand.func 5), args := #[], argTypes := #[] }, type := 4, pos := "law.go:79", after := #[{ on := 53, ground := Ground.chain }, { on := 53, ground := Ground.guard }], guard := Option.some (53, true) }) rfl (fun K hK => ?_) AllReadyH.nil
      go_simp
      refine (CS.out v112).mono ?_
      rintro y v113 ⟨rfl, hb⟩
      have hbS := HX.out.trans (hb.mono HX.out.size)
      refine hK.out _ _ hbS (fun hHeld2 => ?_)
      clear hK K hHeld hHeld2
      have E20 := Lib.hid (E20.out.below hbS)
      have E21 := Lib.hid (E21.out.below hbS)
      have HB := Lib.hid (HB.out.trans (hbS.mono HB.out.size))
      have HQ := Lib.hid HB.out
      refine heldStrong (S' := fun W => Below v113.heap.size v113 W) (fun W hW => hbS.trans (hW.mono hbS.size)) _ _ _ _ ?_
      have hHeld : Below v113.heap.size v113 v113 := Below.refl _ _
      have HX := Lib.hid (Below.refl v113.heap.size v113)
      clear hbS hb
      refine wpAnyH_take (i := 55) (oi := { dst := Option.some 130, op := Op.pick (Operand.tmp 128) (Operand.tmp 129) (Operand.const (Value.bool false)), type := 4, pos := "law.go:79", after := #[{ on := 53, ground := Ground.data }, { on := 54, ground := Ground.data }], guard := Option.none }) (v := .bool true) rfl (by kernel_rfl) (by kernel_rfl) (by kernel_rfl) (fun _ _ _ h => h) (Or.inl ⟨by rfl, ?_⟩) hHeld ?_
      · intro W hSw
        go_simp
      simp only [Act.put, List.setIfInBounds_toArray, List.set_cons_zero, List.set_cons_succ]
      refine wpAnyH_take (i := 56) (oi := { dst := Option.some 6, op := Op.assign (Operand.tmp 130), type := 4, pos := "law.go:79", after := #[{ on := 55, ground := Ground.data }, { on := 54, ground := Ground.chain }, { on := 0, ground := Ground.phase }, { on := 1, ground := Ground.phase }, { on := 2, ground := Ground.phase }, { on := 3, ground := Ground.phase }, { on := 4, ground := Ground.phase }, { on := 5, ground := Ground.phase }, { on := 6, ground := Ground.phase }, { on := 7, ground := Ground.phase }, { on := 8, ground := Ground.phase }, { on := 9, ground := Ground.phase }, { on := 10, ground := Ground.phase }, { on := 11, ground := Ground.phase }, { on := 12, ground := Ground.phase }, { on := 13, ground := Ground.phase }, { on := 14, ground := Ground.phase }, { on := 15, ground := Ground.phase }, { on := 16, ground := Ground.phase }, { on := 17, ground := Ground.phase }, { on := 18, ground := Ground.phase }, { on := 19, ground := Ground.phase }, { on := 20, ground := Ground.phase }, { on := 21, ground := Ground.phase }, { on := 22, ground := Ground.phase }, { on := 23, ground := Ground.phase }, { on := 24, ground := Ground.phase }, { on := 25, ground := Ground.phase }, { on := 26, ground := Ground.phase }, { on := 27, ground := Ground.phase }, { on := 28, ground := Ground.phase }, { on := 29, ground := Ground.phase }, { on := 30, ground := Ground.phase }, { on := 31, ground := Ground.phase }, { on := 32, ground := Ground.phase }, { on := 33, ground := Ground.phase }, { on := 34, ground := Ground.phase }, { on := 35, ground := Ground.phase }, { on := 36, ground := Ground.phase }, { on := 37, ground := Ground.phase }, { on := 38, ground := Ground.phase }, { on := 39, ground := Ground.phase }, { on := 40, ground := Ground.phase }, { on := 41, ground := Ground.phase }, { on := 42, ground := Ground.phase }, { on := 43, ground := Ground.phase }, { on := 44, ground := Ground.phase }, { on := 45, ground := Ground.phase }, { on := 46, ground := Ground.phase }, { on := 47, ground := Ground.phase }, { on := 48, ground := Ground.phase }, { on := 49, ground := Ground.phase }, { on := 50, ground := Ground.phase }, { on := 51, ground := Ground.phase }, { on := 52, ground := Ground.phase }, { on := 53, ground := Ground.phase }, { on := 54, ground := Ground.phase }, { on := 55, ground := Ground.phase }], guard := Option.none }) (v := .bool true) rfl (by kernel_rfl) (by kernel_rfl) (by kernel_rfl) (fun _ _ _ h => h) (Or.inl ⟨by rfl, ?_⟩) hHeld ?_
      · intro W hSw
        go_simp
      simp only [Act.put, List.setIfInBounds_toArray, List.set_cons_zero, List.set_cons_succ]
      clear hHeld
      refine wpAnyH_done (by kernel_rfl) ?_ _
      go_wp2_with fail
      go_ret
      exact ⟨rfl, HE.out.trans ((KB.out.trans (HQ.out.mono KB.out.size)).mono HE.out.size)⟩
    | false =>
      rw [hm] at CC CM
      simp only [Bool.false_eq_true, if_false] at CC
      rw [er_ne (by decide)] at CC
      clear hm
      have hd0 : Below W8.heap.size W8 W8.drew := (Below.refl _ _).drew
      refine wp_region_held_drew (S := fun W => Below W8.heap.size W8 W) (by kernel_rfl) hd0 (fun hHeld => ?_)
      obtain ⟨v0, hv0⟩ : ∃ V, V = W8.drew := ⟨_, rfl⟩
      rw [← hv0] at hd0 hHeld ⊢
      have HB := Lib.hid (Below.refl W8.heap.size W8)
      have HX := Lib.hid hd0
      have HQ := Lib.hid hd0
      clear hd0 hv0
      refine wpAnyH_take (i := 0) (oi := { dst := Option.some 75, op := Op.load 31 (Operand.tmp 7), type := 31, pos := "law.go:79", after := #[], guard := Option.none }) (v := .agg #[.int .i64 lim, .slice A7 n c7]) rfl (by kernel_rfl) (by kernel_rfl) (by kernel_rfl) (fun _ _ _ h => h) (Or.inl ⟨by rfl, ?_⟩) hHeld ?_
      · intro W hSw
        obtain ⟨q0, q1⟩ := H7.out _ (HB.out.trans (hSw.mono HB.out.size))
        go_simp
      simp only [Act.put, List.setIfInBounds_toArray, List.set_cons_zero, List.set_cons_succ]
      refine wpAnyH_take (i := 3) (oi := { dst := Option.some 78, op := Op.load 24 (Operand.tmp 3), type := 24, pos := "law.go:79", after := #[], guard := Option.none }) (v := .agg #[.int .i64 lim, .slice A n c]) rfl (by kernel_rfl) (by kernel_rfl) (by kernel_rfl) (fun _ _ _ h => h) (Or.inl ⟨by rfl, ?_⟩) hHeld ?_
      · intro W hSw
        obtain ⟨⟨x0, x1⟩, -, -⟩ := H3.out _ (HB.out.trans (hSw.mono HB.out.size))
        go_simp
      simp only [Act.put, List.setIfInBounds_toArray, List.set_cons_zero, List.set_cons_succ]
      refine wpAnyH_ready (rs := [1]) (by kernel_rfl) (by simp) ?_
      refine AllReadyH.cons (o := { dst := Option.some 76, op := Op.call { callee := Callee.value (Operand.func 12), args := #[Operand.tmp 75], argTypes := #[31] }, type := 34, pos := "law.go:79", after := #[{ on := 0, ground := Ground.data }], guard := Option.none }) rfl (fun K hK => ?_) AllReadyH.nil
      go_simp
      refine (CC.out _ _ v0 (I7.out.below HQ.out)).mono ?_
      rintro y v114 ⟨rfl, hb⟩
      have hbS := HX.out.trans (hb.mono HX.out.size)
      refine hK.out _ _ hbS (fun hHeld2 => ?_)
      clear hK K hHeld hHeld2
      have HB := Lib.hid (HB.out.trans (hbS.mono HB.out.size))
      have HQ := Lib.hid HB.out
      refine heldStrong (S' := fun W => Below v114.heap.size v114 W) (fun W hW => hbS.trans (hW.mono hbS.size)) _ _ _ _ ?_
      have hHeld : Below v114.heap.size v114 v114 := Below.refl _ _
      have HX := Lib.hid (Below.refl v114.heap.size v114)
      clear hbS hb
      refine wpAnyH_take (i := 2) (oi := { dst := Option.some 77, op := Op.binOp BinOp.eql 34 (Operand.tmp 76) (Operand.const Value.nilIface) 34, type := 4, pos := "law.go:79", after := #[{ on := 1, ground := Ground.data }], guard := Option.none }) (v := .bool false) rfl (by kernel_rfl) (by kernel_rfl) (by kernel_rfl) (fun _ _ _ h => h) (Or.inl ⟨by rfl, ?_⟩) hHeld ?_
      · intro W hSw
        go_simp
      simp only [Act.put, List.setIfInBounds_toArray, List.set_cons_zero, List.set_cons_succ]
      refine wpAnyH_ready (rs := [4]) (by kernel_rfl) (by simp) ?_
      refine AllReadyH.cons (o := { dst := Option.some 79, op := Op.call { callee := Callee.value (Operand.func 13), args := #[Operand.tmp 78], argTypes := #[24] }, type := 4, pos := "law.go:79", after := #[{ on := 3, ground := Ground.data }, { on := 1, ground := Ground.chain }], guard := Option.none }) rfl (fun K hK => ?_) AllReadyH.nil
      go_simp
      refine (CM.out v114 (KB.out.trans (HQ.out.mono KB.out.size))).mono ?_
      rintro y v115 ⟨rfl, hb⟩
      have hbS := HX.out.trans (hb.mono HX.out.size)
      refine hK.out _ _ hbS (fun hHeld2 => ?_)
      clear hK K hHeld hHeld2
      have HB := Lib.hid (HB.out.trans (hbS.mono HB.out.size))
      have HQ := Lib.hid HB.out
      refine heldStrong (S' := fun W => Below v115.heap.size v115 W) (fun W hW => hbS.trans (hW.mono hbS.size)) _ _ _ _ ?_
      have hHeld : Below v115.heap.size v115 v115 := Below.refl _ _
      have HX := Lib.hid (Below.refl v115.heap.size v115)
      clear hbS hb
      refine wpAnyH_take (i := 5) (oi := { dst := Option.some 80, op := Op.binOp BinOp.eql 4 (Operand.tmp 77) (Operand.tmp 79) 4, type := 4, pos := "law.go:79", after := #[{ on := 2, ground := Ground.data }, { on := 4, ground := Ground.data }], guard := Option.none }) (v := .bool true) rfl (by kernel_rfl) (by kernel_rfl) (by kernel_rfl) (fun _ _ _ h => h) (Or.inl ⟨by rfl, ?_⟩) hHeld ?_
      · intro W hSw
        go_simp
      simp only [Act.put, List.setIfInBounds_toArray, List.set_cons_zero, List.set_cons_succ]
      refine wpAnyH_take (i := 6) (oi := { dst := Option.some 81, op := Op.move (Operand.tmp 80), type := 4, pos := "law.go:79", after := #[{ on := 5, ground := Ground.data }, { on := 4, ground := Ground.chain }], guard := Option.none }) (v := .bool true) rfl (by kernel_rfl) (by kernel_rfl) (by kernel_rfl) (fun _ _ _ h => h) (Or.inl ⟨by rfl, ?_⟩) hHeld ?_
      · intro W hSw
        go_simp
      simp only [Act.put, List.setIfInBounds_toArray, List.set_cons_zero, List.set_cons_succ]
      refine wpAnyH_take (i := 7) (oi := { dst := Option.some 82, op := Op.load 31 (Operand.tmp 8), type := 31, pos := "law.go:79", after := #[{ on := 6, ground := Ground.guard }], guard := Option.some (6, true) }) (v := .agg #[.int .i64 qa, .slice A8 ma c8]) rfl (by kernel_rfl) (by kernel_rfl) (by kernel_rfl) (fun _ _ _ h => h) (Or.inl ⟨by rfl, ?_⟩) hHeld ?_
      · intro W hSw
        obtain ⟨q0, q1⟩ := H8.out _ (HB.out.trans (hSw.mono HB.out.size))
        go_simp
      simp only [Act.put, List.setIfInBounds_toArray, List.set_cons_zero, List.set_cons_succ]
      refine wpAnyH_take (i := 8) (oi := { dst := Option.some 83, op := Op.load 24 (Operand.tmp 10), type := 24, pos := "law.go:79", after := #[{ on := 6, ground := Ground.guard }], guard := Option.some (6, true) }) (v := .agg #[.int .i64 qa, .slice A10 ma c10]) rfl (by kernel_rfl) (by kernel_rfl) (by kernel_rfl) (fun _ _ _ h => h) (Or.inl ⟨by rfl, ?_⟩) hHeld ?_
      · intro W hSw
        obtain ⟨q0, q1⟩ := H10.out _ (HB.out.trans (hSw.mono HB.out.size))
        go_simp
      simp only [Act.put, List.setIfInBounds_toArray, List.set_cons_zero, List.set_cons_succ]
      refine wpAnyH_ready (rs := [9]) (by kernel_rfl) (by simp) ?_
      refine AllReadyH.cons (o := { dst := Option.some 84, op := Op.call { callee := Callee.value (Operand.func 14), args := #[Operand.tmp 82, Operand.tmp 83], argTypes := #[31, 24] }, type := 4, pos := "law.go:79", after := #[{ on := 7, ground := Ground.data }, { on := 8, ground := Ground.data }, { on := 6, ground := Ground.chain }, { on := 6, ground := Ground.guard }], guard := Option.some (6, true) }) rfl (fun K hK => ?_) AllReadyH.nil
      go_simp
      refine (same_any qa la A8 ma c8 A10 ma c10 v115 (I8.out.below HQ.out) (I10.out.below HQ.out)).mono ?_
      rintro y v116 ⟨rfl, hb⟩
      have hbS := HX.out.trans (hb.mono HX.out.size)
      refine hK.out _ _ hbS (fun hHeld2 => ?_)
      clear hK K hHeld hHeld2
      have HB := Lib.hid (HB.out.trans (hbS.mono HB.out.size))
      have HQ := Lib.hid HB.out
      refine heldStrong (S' := fun W => Below v116.heap.size v116 W) (fun W hW => hbS.trans (hW.mono hbS.size)) _ _ _ _ ?_
      have hHeld : Below v116.heap.size v116 v116 := Below.refl _ _
      have HX := Lib.hid (Below.refl v116.heap.size v116)
      clear hbS hb
      refine wpAnyH_take (i := 10) (oi := { dst := Option.some 85, op := Op.pick (Operand.tmp 81) (Operand.tmp 84) (Operand.const (Value.bool false)), type := 4, pos := "law.go:79", after := #[{ on := 6, ground := Ground.data }, { on := 9, ground := Ground.data }], guard := Option.none }) (v := .bool true) rfl (by kernel_rfl) (by kernel_rfl) (by kernel_rfl) (fun _ _ _ h => h) (Or.inl ⟨by rfl, ?_⟩) hHeld ?_
      · intro W hSw
        go_simp
      simp only [Act.put, List.setIfInBounds_toArray, List.set_cons_zero, List.set_cons_succ]
      refine wpAnyH_take (i := 11) (oi := { dst := Option.some 86, op := Op.move (Operand.tmp 85), type := 4, pos := "law.go:79", after := #[{ on := 10, ground := Ground.data }, { on := 9, ground := Ground.chain }], guard := Option.none }) (v := .bool true) rfl (by kernel_rfl) (by kernel_rfl) (by kernel_rfl) (fun _ _ _ h => h) (Or.inl ⟨by rfl, ?_⟩) hHeld ?_
      · intro W hSw
        go_simp
      simp only [Act.put, List.setIfInBounds_toArray, List.set_cons_zero, List.set_cons_succ]
      refine wpAnyH_take (i := 12) (oi := { dst := Option.some 87, op := Op.move (Operand.tmp 9), type := 34, pos := "law.go:79", after := #[{ on := 11, ground := Ground.guard }], guard := Option.some (11, true) }) (v := er ka) rfl (by kernel_rfl) (by kernel_rfl) (by kernel_rfl) (fun _ _ _ h => h) (Or.inl ⟨by rfl, ?_⟩) hHeld ?_
      · intro W hSw
        go_simp
      simp only [Act.put, List.setIfInBounds_toArray, List.set_cons_zero, List.set_cons_succ]
      refine wpAnyH_take (i := 14) (oi := { dst := Option.some 89, op := Op.move (Operand.tmp 11), type := 3, pos := "law.go:79", after := #[{ on := 11, ground := Ground.guard }], guard := Option.some (11, true) }) (v := .int .i64 (ka : Int)) rfl (by kernel_rfl) (by kernel_rfl) (by kernel_rfl) (fun _ _ _ h => h) (Or.inl ⟨by rfl, ?_⟩) hHeld ?_
      · intro W hSw
        go_simp
      simp only [Act.put, List.setIfInBounds_toArray, List.set_cons_zero, List.set_cons_succ]
      refine wpAnyH_ready (rs := [13]) (by kernel_rfl) (by simp) ?_
      refine AllReadyH.cons (o := { dst := Option.some 88, op := Op.call { callee := Callee.value (Operand.func 15), args := #[Operand.tmp 87], argTypes := #[34] }, type := 3, pos := "law.go:79", after := #[{ on := 12, ground := Ground.data }, { on := 11, ground := Ground.chain }, { on := 11, ground := Ground.guard }], guard := Option.some (11, true) }) rfl (fun K hK => ?_) AllReadyH.nil
      go_simp
      refine (CN.out v116 (HS.out v116 (KB.out.trans (HQ.out.mono KB.out.size)))).mono ?_
      rintro y v117 ⟨rfl, hb⟩
      have hbS := HX.out.trans (hb.mono HX.out.size)
      refine hK.out _ _ hbS (fun hHeld2 => ?_)
      clear hK K hHeld hHeld2
      have HB := Lib.hid (HB.out.trans (hbS.mono HB.out.size))
      have HQ := Lib.hid HB.out
      refine heldStrong (S' := fun W => Below v117.heap.size v117 W) (fun W hW => hbS.trans (hW.mono hbS.size)) _ _ _ _ ?_
      have hHeld : Below v117.heap.size v117 v117 := Below.refl _ _
      have HX := Lib.hid (Below.refl v117.heap.size v117)
      clear hbS hb
      refine wpAnyH_take (i := 15) (oi := { dst := Option.some 90, op := Op.binOp BinOp.eql 3 (Operand.tmp 88) (Operand.tmp 89) 3, type := 4, pos := "law.go:79", after := #[{ on := 13, ground := Ground.data }, { on := 14, ground := Ground.data }, { on := 11, ground := Ground.guard }], guard := Option.some (11, true) }) (v := .bool true) rfl (by kernel_rfl) (by kernel_rfl) (by kernel_rfl) (fun _ _ _ h => h) (Or.inl ⟨by rfl, ?_⟩) hHeld ?_
      · intro W hSw
        go_simp
      simp only [Act.put, List.setIfInBounds_toArray, List.set_cons_zero, List.set_cons_succ]
      refine wpAnyH_take (i := 16) (oi := { dst := Option.some 91, op := Op.pick (Operand.tmp 86) (Operand.tmp 90) (Operand.const (Value.bool false)), type := 4, pos := "law.go:79", after := #[{ on := 11, ground := Ground.data }, { on := 15, ground := Ground.data }], guard := Option.none }) (v := .bool true) rfl (by kernel_rfl) (by kernel_rfl) (by kernel_rfl) (fun _ _ _ h => h) (Or.inl ⟨by rfl, ?_⟩) hHeld ?_
      · intro W hSw
        go_simp
      simp only [Act.put, List.setIfInBounds_toArray, List.set_cons_zero, List.set_cons_succ]
      refine wpAnyH_take (i := 17) (oi := { dst := Option.some 92, op := Op.move (Operand.tmp 91), type := 4, pos := "law.go:79", after := #[{ on := 16, ground := Ground.data }, { on := 13, ground := Ground.chain }], guard := Option.none }) (v := .bool true) rfl (by kernel_rfl) (by kernel_rfl) (by kernel_rfl) (fun _ _ _ h => h) (Or.inl ⟨by rfl, ?_⟩) hHeld ?_
      · intro W hSw
        go_simp
      simp only [Act.put, List.setIfInBounds_toArray, List.set_cons_zero, List.set_cons_succ]
      refine wpAnyH_take (i := 18) (oi := { dst := Option.some 93, op := Op.load 31 (Operand.tmp 12), type := 31, pos := "law.go:79", after := #[{ on := 17, ground := Ground.guard }], guard := Option.some (17, true) }) (v := .agg #[.int .i64 qt, .slice A12 mt c12]) rfl (by kernel_rfl) (by kernel_rfl) (by kernel_rfl) (fun _ _ _ h => h) (Or.inl ⟨by rfl, ?_⟩) hHeld ?_
      · intro W hSw
        obtain ⟨q0, q1⟩ := H12.out _ (HB.out.trans (hSw.mono HB.out.size))
        go_simp
      simp only [Act.put, List.setIfInBounds_toArray, List.set_cons_zero, List.set_cons_succ]
      refine wpAnyH_take (i := 19) (oi := { dst := Option.some 94, op := Op.load 24 (Operand.tmp 14), type := 24, pos := "law.go:79", after := #[{ on := 17, ground := Ground.guard }], guard := Option.some (17, true) }) (v := .agg #[.int .i64 qt, .slice A14 mt c14]) rfl (by kernel_rfl) (by kernel_rfl) (by kernel_rfl) (fun _ _ _ h => h) (Or.inl ⟨by rfl, ?_⟩) hHeld ?_
      · intro W hSw
        obtain ⟨q0, q1⟩ := H14.out _ (HB.out.trans (hSw.mono HB.out.size))
        go_simp
      simp only [Act.put, List.setIfInBounds_toArray, List.set_cons_zero, List.set_cons_succ]
      refine wpAnyH_ready (rs := [20]) (by kernel_rfl) (by simp) ?_
      refine AllReadyH.cons (o := { dst := Option.some 95, op := Op.call { callee := Callee.value (Operand.func 14), args := #[Operand.tmp 93, Operand.tmp 94], argTypes := #[31, 24] }, type := 4, pos := "law.go:79", after := #[{ on := 18, ground := Ground.data }, { on := 19, ground := Ground.data }, { on := 17, ground := Ground.chain }, { on := 17, ground := Ground.guard }], guard := Option.some (17, true) }) rfl (fun K hK => ?_) AllReadyH.nil
      go_simp
      refine (same_any qt lt A12 mt c12 A14 mt c14 v117 (I12.out.below HQ.out) (I14.out.below HQ.out)).mono ?_
      rintro y v118 ⟨rfl, hb⟩
      have hbS := HX.out.trans (hb.mono HX.out.size)
      refine hK.out _ _ hbS (fun hHeld2 => ?_)
      clear hK K hHeld hHeld2
      have HB := Lib.hid (HB.out.trans (hbS.mono HB.out.size))
      have HQ := Lib.hid HB.out
      refine heldStrong (S' := fun W => Below v118.heap.size v118 W) (fun W hW => hbS.trans (hW.mono hbS.size)) _ _ _ _ ?_
      have hHeld : Below v118.heap.size v118 v118 := Below.refl _ _
      have HX := Lib.hid (Below.refl v118.heap.size v118)
      clear hbS hb
      refine wpAnyH_take (i := 21) (oi := { dst := Option.some 96, op := Op.pick (Operand.tmp 92) (Operand.tmp 95) (Operand.const (Value.bool false)), type := 4, pos := "law.go:79", after := #[{ on := 17, ground := Ground.data }, { on := 20, ground := Ground.data }], guard := Option.none }) (v := .bool true) rfl (by kernel_rfl) (by kernel_rfl) (by kernel_rfl) (fun _ _ _ h => h) (Or.inl ⟨by rfl, ?_⟩) hHeld ?_
      · intro W hSw
        go_simp
      simp only [Act.put, List.setIfInBounds_toArray, List.set_cons_zero, List.set_cons_succ]
      refine wpAnyH_take (i := 22) (oi := { dst := Option.some 97, op := Op.move (Operand.tmp 96), type := 4, pos := "law.go:79", after := #[{ on := 21, ground := Ground.data }, { on := 20, ground := Ground.chain }], guard := Option.none }) (v := .bool true) rfl (by kernel_rfl) (by kernel_rfl) (by kernel_rfl) (fun _ _ _ h => h) (Or.inl ⟨by rfl, ?_⟩) hHeld ?_
      · intro W hSw
        go_simp
      simp only [Act.put, List.setIfInBounds_toArray, List.set_cons_zero, List.set_cons_succ]
      refine wpAnyH_take (i := 23) (oi := { dst := Option.some 98, op := Op.move (Operand.tmp 13), type := 40, pos := "law.go:79", after := #[{ on := 22, ground := Ground.guard }], guard := Option.some (22, true) }) (v := .slice A13 nt c13) rfl (by kernel_rfl) (by kernel_rfl) (by kernel_rfl) (fun _ _ _ h => h) (Or.inl ⟨by rfl, ?_⟩) hHeld ?_
      · intro W hSw
        go_simp
      simp only [Act.put, List.setIfInBounds_toArray, List.set_cons_zero, List.set_cons_succ]
      refine wpAnyH_take (i := 24) (oi := { dst := Option.some 99, op := Op.move (Operand.tmp 15), type := 40, pos := "law.go:79", after := #[{ on := 22, ground := Ground.guard }], guard := Option.some (22, true) }) (v := .slice A15 nt c15) rfl (by kernel_rfl) (by kernel_rfl) (by kernel_rfl) (fun _ _ _ h => h) (Or.inl ⟨by rfl, ?_⟩) hHeld ?_
      · intro W hSw
        go_simp
      simp only [Act.put, List.setIfInBounds_toArray, List.set_cons_zero, List.set_cons_succ]
      refine wpAnyH_ready (rs := [25]) (by kernel_rfl) (by simp) ?_
      refine AllReadyH.cons (o := { dst := Option.some 100, op := Op.call { callee := Callee.value (Operand.func 16), args := #[Operand.tmp 98, Operand.tmp 99], argTypes := #[40, 40] }, type := 4, pos := "law.go:79", after := #[{ on := 23, ground := Ground.data }, { on := 24, ground := Ground.data }, { on := 22, ground := Ground.chain }, { on := 22, ground := Ground.guard }], guard := Option.some (22, true) }) rfl (fun K hK => ?_) AllReadyH.nil
      go_simp
      refine (ints_any A13 nt c13 zt A15 nt c15 zt v118 (I13.out.below HQ.out) (I15.out.below HQ.out) true (decide_eq_true rfl).symm).mono ?_
      rintro y v119 ⟨rfl, hb⟩
      have hbS := HX.out.trans (hb.mono HX.out.size)
      refine hK.out _ _ hbS (fun hHeld2 => ?_)
      clear hK K hHeld hHeld2
      have HB := Lib.hid (HB.out.trans (hbS.mono HB.out.size))
      have HQ := Lib.hid HB.out
      refine heldStrong (S' := fun W => Below v119.heap.size v119 W) (fun W hW => hbS.trans (hW.mono hbS.size)) _ _ _ _ ?_
      have hHeld : Below v119.heap.size v119 v119 := Below.refl _ _
      have HX := Lib.hid (Below.refl v119.heap.size v119)
      clear hbS hb
      refine wpAnyH_take (i := 26) (oi := { dst := Option.some 101, op := Op.pick (Operand.tmp 97) (Operand.tmp 100) (Operand.const (Value.bool false)), type := 4, pos := "law.go:79", after := #[{ on := 22, ground := Ground.data }, { on := 25, ground := Ground.data }], guard := Option.none }) (v := .bool true) rfl (by kernel_rfl) (by kernel_rfl) (by kernel_rfl) (fun _ _ _ h => h) (Or.inl ⟨by rfl, ?_⟩) hHeld ?_
      · intro W hSw
        go_simp
      simp only [Act.put, List.setIfInBounds_toArray, List.set_cons_zero, List.set_cons_succ]
      refine wpAnyH_take (i := 27) (oi := { dst := Option.some 102, op := Op.move (Operand.tmp 101), type := 4, pos := "law.go:79", after := #[{ on := 26, ground := Ground.data }, { on := 25, ground := Ground.chain }], guard := Option.none }) (v := .bool true) rfl (by kernel_rfl) (by kernel_rfl) (by kernel_rfl) (fun _ _ _ h => h) (Or.inl ⟨by rfl, ?_⟩) hHeld ?_
      · intro W hSw
        go_simp
      simp only [Act.put, List.setIfInBounds_toArray, List.set_cons_zero, List.set_cons_succ]
      refine wpAnyH_take (i := 28) (oi := { dst := Option.some 103, op := Op.load 31 (Operand.tmp 16), type := 31, pos := "law.go:79", after := #[{ on := 27, ground := Ground.guard }], guard := Option.some (27, true) }) (v := .agg #[.int .i64 qf, .slice A16 mf c16]) rfl (by kernel_rfl) (by kernel_rfl) (by kernel_rfl) (fun _ _ _ h => h) (Or.inl ⟨by rfl, ?_⟩) hHeld ?_
      · intro W hSw
        obtain ⟨q0, q1⟩ := H16.out _ (HB.out.trans (hSw.mono HB.out.size))
        go_simp
      simp only [Act.put, List.setIfInBounds_toArray, List.set_cons_zero, List.set_cons_succ]
      refine wpAnyH_take (i := 29) (oi := { dst := Option.some 104, op := Op.load 24 (Operand.tmp 18), type := 24, pos := "law.go:79", after := #[{ on := 27, ground := Ground.guard }], guard := Option.some (27, true) }) (v := .agg #[.int .i64 qf, .slice A18 mf c18]) rfl (by kernel_rfl) (by kernel_rfl) (by kernel_rfl) (fun _ _ _ h => h) (Or.inl ⟨by rfl, ?_⟩) hHeld ?_
      · intro W hSw
        obtain ⟨q0, q1⟩ := H18.out _ (HB.out.trans (hSw.mono HB.out.size))
        go_simp
      simp only [Act.put, List.setIfInBounds_toArray, List.set_cons_zero, List.set_cons_succ]
      refine wpAnyH_ready (rs := [30]) (by kernel_rfl) (by simp) ?_
      refine AllReadyH.cons (o := { dst := Option.some 105, op := Op.call { callee := Callee.value (Operand.func 14), args := #[Operand.tmp 103, Operand.tmp 104], argTypes := #[31, 24] }, type := 4, pos := "law.go:79", after := #[{ on := 28, ground := Ground.data }, { on := 29, ground := Ground.data }, { on := 27, ground := Ground.chain }, { on := 27, ground := Ground.guard }], guard := Option.some (27, true) }) rfl (fun K hK => ?_) AllReadyH.nil
      go_simp
      refine (same_any qf lf A16 mf c16 A18 mf c18 v119 (I16.out.below HQ.out) (I18.out.below HQ.out)).mono ?_
      rintro y v120 ⟨rfl, hb⟩
      have hbS := HX.out.trans (hb.mono HX.out.size)
      refine hK.out _ _ hbS (fun hHeld2 => ?_)
      clear hK K hHeld hHeld2
      have HB := Lib.hid (HB.out.trans (hbS.mono HB.out.size))
      have HQ := Lib.hid HB.out
      refine heldStrong (S' := fun W => Below v120.heap.size v120 W) (fun W hW => hbS.trans (hW.mono hbS.size)) _ _ _ _ ?_
      have hHeld : Below v120.heap.size v120 v120 := Below.refl _ _
      have HX := Lib.hid (Below.refl v120.heap.size v120)
      clear hbS hb
      refine wpAnyH_take (i := 31) (oi := { dst := Option.some 106, op := Op.pick (Operand.tmp 102) (Operand.tmp 105) (Operand.const (Value.bool false)), type := 4, pos := "law.go:79", after := #[{ on := 27, ground := Ground.data }, { on := 30, ground := Ground.data }], guard := Option.none }) (v := .bool true) rfl (by kernel_rfl) (by kernel_rfl) (by kernel_rfl) (fun _ _ _ h => h) (Or.inl ⟨by rfl, ?_⟩) hHeld ?_
      · intro W hSw
        go_simp
      simp only [Act.put, List.setIfInBounds_toArray, List.set_cons_zero, List.set_cons_succ]
      refine wpAnyH_take (i := 32) (oi := { dst := Option.some 107, op := Op.move (Operand.tmp 106), type := 4, pos := "law.go:79", after := #[{ on := 31, ground := Ground.data }, { on := 30, ground := Ground.chain }], guard := Option.none }) (v := .bool true) rfl (by kernel_rfl) (by kernel_rfl) (by kernel_rfl) (fun _ _ _ h => h) (Or.inl ⟨by rfl, ?_⟩) hHeld ?_
      · intro W hSw
        go_simp
      simp only [Act.put, List.setIfInBounds_toArray, List.set_cons_zero, List.set_cons_succ]
      refine wpAnyH_take (i := 33) (oi := { dst := Option.some 108, op := Op.move (Operand.tmp 17), type := 40, pos := "law.go:79", after := #[{ on := 32, ground := Ground.guard }], guard := Option.some (32, true) }) (v := .slice A17 nf c17) rfl (by kernel_rfl) (by kernel_rfl) (by kernel_rfl) (fun _ _ _ h => h) (Or.inl ⟨by rfl, ?_⟩) hHeld ?_
      · intro W hSw
        go_simp
      simp only [Act.put, List.setIfInBounds_toArray, List.set_cons_zero, List.set_cons_succ]
      refine wpAnyH_take (i := 34) (oi := { dst := Option.some 109, op := Op.move (Operand.tmp 19), type := 40, pos := "law.go:79", after := #[{ on := 32, ground := Ground.guard }], guard := Option.some (32, true) }) (v := .slice A19 nf c19) rfl (by kernel_rfl) (by kernel_rfl) (by kernel_rfl) (fun _ _ _ h => h) (Or.inl ⟨by rfl, ?_⟩) hHeld ?_
      · intro W hSw
        go_simp
      simp only [Act.put, List.setIfInBounds_toArray, List.set_cons_zero, List.set_cons_succ]
      refine wpAnyH_ready (rs := [35]) (by kernel_rfl) (by simp) ?_
      refine AllReadyH.cons (o := { dst := Option.some 110, op := Op.call { callee := Callee.value (Operand.func 16), args := #[Operand.tmp 108, Operand.tmp 109], argTypes := #[40, 40] }, type := 4, pos := "law.go:79", after := #[{ on := 33, ground := Ground.data }, { on := 34, ground := Ground.data }, { on := 32, ground := Ground.chain }, { on := 32, ground := Ground.guard }], guard := Option.some (32, true) }) rfl (fun K hK => ?_) AllReadyH.nil
      go_simp
      refine (ints_any A17 nf c17 zf A19 nf c19 zf v120 (I17.out.below HQ.out) (I19.out.below HQ.out) true (decide_eq_true rfl).symm).mono ?_
      rintro y v121 ⟨rfl, hb⟩
      have hbS := HX.out.trans (hb.mono HX.out.size)
      refine hK.out _ _ hbS (fun hHeld2 => ?_)
      clear hK K hHeld hHeld2
      have HB := Lib.hid (HB.out.trans (hbS.mono HB.out.size))
      have HQ := Lib.hid HB.out
      refine heldStrong (S' := fun W => Below v121.heap.size v121 W) (fun W hW => hbS.trans (hW.mono hbS.size)) _ _ _ _ ?_
      have hHeld : Below v121.heap.size v121 v121 := Below.refl _ _
      have HX := Lib.hid (Below.refl v121.heap.size v121)
      clear hbS hb
      refine wpAnyH_take (i := 36) (oi := { dst := Option.some 111, op := Op.pick (Operand.tmp 107) (Operand.tmp 110) (Operand.const (Value.bool false)), type := 4, pos := "law.go:79", after := #[{ on := 32, ground := Ground.data }, { on := 35, ground := Ground.data }], guard := Option.none }) (v := .bool true) rfl (by kernel_rfl) (by kernel_rfl) (by kernel_rfl) (fun _ _ _ h => h) (Or.inl ⟨by rfl, ?_⟩) hHeld ?_
      · intro W hSw
        go_simp
      simp only [Act.put, List.setIfInBounds_toArray, List.set_cons_zero, List.set_cons_succ]
      refine wpAnyH_take (i := 37) (oi := { dst := Option.some 112, op := Op.move (Operand.tmp 111), type := 4, pos := "law.go:79", after := #[{ on := 36, ground := Ground.data }, { on := 35, ground := Ground.chain }], guard := Option.none }) (v := .bool true) rfl (by kernel_rfl) (by kernel_rfl) (by kernel_rfl) (fun _ _ _ h => h) (Or.inl ⟨by rfl, ?_⟩) hHeld ?_
      · intro W hSw
        go_simp
      simp only [Act.put, List.setIfInBounds_toArray, List.set_cons_zero, List.set_cons_succ]
      refine wpAnyH_take (i := 38) (oi := { dst := Option.some 113, op := Op.load 31 (Operand.tmp 7), type := 31, pos := "law.go:79", after := #[{ on := 37, ground := Ground.guard }], guard := Option.some (37, true) }) (v := .agg #[.int .i64 lim, .slice A7 n c7]) rfl (by kernel_rfl) (by kernel_rfl) (by kernel_rfl) (fun _ _ _ h => h) (Or.inl ⟨by rfl, ?_⟩) hHeld ?_
      · intro W hSw
        obtain ⟨q0, q1⟩ := H7.out _ (HB.out.trans (hSw.mono HB.out.size))
        go_simp
      simp only [Act.put, List.setIfInBounds_toArray, List.set_cons_zero, List.set_cons_succ]
      refine wpAnyH_take (i := 39) (oi := { dst := Option.some 114, op := Op.indexAddr 27 (Operand.tmp 5) (Operand.const (Value.int IntKind.i64 0)), type := 0, pos := "law.go:79", after := #[{ on := 37, ground := Ground.guard }], guard := Option.some (37, true) }) (v := .pointer (some ⟨g3, 0, none⟩)) rfl (by kernel_rfl) (by kernel_rfl) (by kernel_rfl) (fun _ _ _ h => h) (Or.inl ⟨by rfl, ?_⟩) hHeld ?_
      · intro W hSw
        obtain ⟨-, -, z0, z1, z2⟩ := H3.out _ (HB.out.trans (hSw.mono HB.out.size))
        go_simp
      simp only [Act.put, List.setIfInBounds_toArray, List.set_cons_zero, List.set_cons_succ]
      refine wpAnyH_take (i := 40) (oi := { dst := Option.some 115, op := Op.load 3 (Operand.tmp 114), type := 3, pos := "law.go:79", after := #[{ on := 39, ground := Ground.data }, { on := 37, ground := Ground.guard }], guard := Option.some (37, true) }) (v := .int .i64 o0) rfl (by kernel_rfl) (by kernel_rfl) (by kernel_rfl) (fun _ _ _ h => h) (Or.inl ⟨by rfl, ?_⟩) hHeld ?_
      · intro W hSw
        obtain ⟨-, -, z0, z1, z2⟩ := H3.out _ (HB.out.trans (hSw.mono HB.out.size))
        go_simp
      simp only [Act.put, List.setIfInBounds_toArray, List.set_cons_zero, List.set_cons_succ]
      refine wpAnyH_take (i := 42) (oi := { dst := Option.some 117, op := Op.load 24 (Operand.tmp 3), type := 24, pos := "law.go:79", after := #[{ on := 37, ground := Ground.guard }], guard := Option.some (37, true) }) (v := .agg #[.int .i64 lim, .slice A n c]) rfl (by kernel_rfl) (by kernel_rfl) (by kernel_rfl) (fun _ _ _ h => h) (Or.inl ⟨by rfl, ?_⟩) hHeld ?_
      · intro W hSw
        obtain ⟨⟨x0, x1⟩, -, -⟩ := H3.out _ (HB.out.trans (hSw.mono HB.out.size))
        go_simp
      simp only [Act.put, List.setIfInBounds_toArray, List.set_cons_zero, List.set_cons_succ]
      refine wpAnyH_take (i := 43) (oi := { dst := Option.some 118, op := Op.indexAddr 27 (Operand.tmp 5) (Operand.const (Value.int IntKind.i64 0)), type := 0, pos := "law.go:79", after := #[{ on := 37, ground := Ground.guard }], guard := Option.some (37, true) }) (v := .pointer (some ⟨g3, 0, none⟩)) rfl (by kernel_rfl) (by kernel_rfl) (by kernel_rfl) (fun _ _ _ h => h) (Or.inl ⟨by rfl, ?_⟩) hHeld ?_
      · intro W hSw
        obtain ⟨-, -, z0, z1, z2⟩ := H3.out _ (HB.out.trans (hSw.mono HB.out.size))
        go_simp
      simp only [Act.put, List.setIfInBounds_toArray, List.set_cons_zero, List.set_cons_succ]
      refine wpAnyH_take (i := 44) (oi := { dst := Option.some 119, op := Op.load 3 (Operand.tmp 118), type := 3, pos := "law.go:79", after := #[{ on := 43, ground := Ground.data }, { on := 37, ground := Ground.guard }], guard := Option.some (37, true) }) (v := .int .i64 o0) rfl (by kernel_rfl) (by kernel_rfl) (by kernel_rfl) (fun _ _ _ h => h) (Or.inl ⟨by rfl, ?_⟩) hHeld ?_
      · intro W hSw
        obtain ⟨-, -, z0, z1, z2⟩ := H3.out _ (HB.out.trans (hSw.mono HB.out.size))
        go_simp
      simp only [Act.put, List.setIfInBounds_toArray, List.set_cons_zero, List.set_cons_succ]
      refine wpAnyH_ready (rs := [41]) (by kernel_rfl) (by simp) ?_
      refine AllReadyH.cons (o := { dst := Option.some 116, op := Op.call { callee := Callee.value (Operand.func 17), args := #[Operand.tmp 113, Operand.tmp 115], argTypes := #[31, 3] }, type := 40, pos := "law.go:79", after := #[{ on := 38, ground := Ground.data }, { on := 40, ground := Ground.data }, { on := 37, ground := Ground.chain }, { on := 37, ground := Ground.guard }], guard := Option.some (37, true) }) rfl (fun K hK => ?_) AllReadyH.nil
      go_simp
      refine (CR.out _ _ v121 (I7.out.below HQ.out)).mono ?_
      rintro y v122 ⟨r1, A20, k20, c20, rfl, hk1, hr1, hi1, hb⟩
      have HR1 := Lib.hid hr1
      clear hk1 hr1
      have hbS := HX.out.trans (hb.mono HX.out.size)
      refine hK.out _ _ hbS (fun hHeld2 => ?_)
      clear hK K hHeld hHeld2
      have E20 := Lib.hid (hi1)
      have HB := Lib.hid (HB.out.trans (hbS.mono HB.out.size))
      have HQ := Lib.hid HB.out
      refine heldStrong (S' := fun W => Below v122.heap.size v122 W) (fun W hW => hbS.trans (hW.mono hbS.size)) _ _ _ _ ?_
      have hHeld : Below v122.heap.size v122 v122 := Below.refl _ _
      have HX := Lib.hid (Below.refl v122.heap.size v122)
      clear hbS hb
      clear hi1
      refine wpAnyH_ready (rs := [45]) (by kernel_rfl) (by simp) ?_
      refine AllReadyH.cons (o := { dst := Option.some 120, op := Op.call { callee := Callee.value (Operand.func 18), args := #[Operand.tmp 117, Operand.tmp 119], argTypes := #[24, 3] }, type := 40, pos := "law.go:79", after := #[{ on := 42, ground := Ground.data }, { on := 44, ground := Ground.data }, { on := 41, ground := Ground.chain }, { on := 37, ground := Ground.guard }], guard := Option.some (37, true) }) rfl (fun K hK => ?_) AllReadyH.nil
      go_simp
      refine (CR'.out v122 (KB.out.trans (HQ.out.mono KB.out.size))).mono ?_
      rintro y v123 ⟨r2, A21, k21, c21, rfl, hk1, hr1, hi1, hb⟩
      obtain rfl := rounds_same hr1 HR1.out
      clear hk1 hr1
      have hbS := HX.out.trans (hb.mono HX.out.size)
      refine hK.out _ _ hbS (fun hHeld2 => ?_)
      clear hK K hHeld hHeld2
      have E20 := Lib.hid (E20.out.below hbS)
      have E21 := Lib.hid (hi1)
      have HB := Lib.hid (HB.out.trans (hbS.mono HB.out.size))
      have HQ := Lib.hid HB.out
      refine heldStrong (S' := fun W => Below v123.heap.size v123 W) (fun W hW => hbS.trans (hW.mono hbS.size)) _ _ _ _ ?_
      have hHeld : Below v123.heap.size v123 v123 := Below.refl _ _
      have HX := Lib.hid (Below.refl v123.heap.size v123)
      clear hbS hb
      clear hi1
      refine wpAnyH_ready (rs := [46]) (by kernel_rfl) (by simp) ?_
      refine AllReadyH.cons (o := { dst := Option.some 121, op := Op.call { callee := Callee.value (Operand.func 16), args := #[Operand.tmp 116, Operand.tmp 120], argTypes := #[40, 40] }, type := 4, pos := "law.go:79", after := #[{ on := 41, ground := Ground.data }, { on := 45, ground := Ground.data }, { on := 45, ground := Ground.chain }, { on := 37, ground := Ground.guard }], guard := Option.some (37, true) }) rfl (fun K hK => ?_) AllReadyH.nil
      go_simp
      refine (ints_any A20 k20 c20 r2 A21 k21 c21 r2 v123 E20.out E21.out true (decide_eq_true rfl).symm).mono ?_
      rintro y v124 ⟨rfl, hb⟩
      have hbS := HX.out.trans (hb.mono HX.out.size)
      refine hK.out _ _ hbS (fun hHeld2 => ?_)
      clear hK K hHeld hHeld2
      have E20 := Lib.hid (E20.out.below hbS)
      have E21 := Lib.hid (E21.out.below hbS)
      have HB := Lib.hid (HB.out.trans (hbS.mono HB.out.size))
      have HQ := Lib.hid HB.out
      refine heldStrong (S' := fun W => Below v124.heap.size v124 W) (fun W hW => hbS.trans (hW.mono hbS.size)) _ _ _ _ ?_
      have hHeld : Below v124.heap.size v124 v124 := Below.refl _ _
      have HX := Lib.hid (Below.refl v124.heap.size v124)
      clear hbS hb
      refine wpAnyH_take (i := 47) (oi := { dst := Option.some 122, op := Op.pick (Operand.tmp 112) (Operand.tmp 121) (Operand.const (Value.bool false)), type := 4, pos := "law.go:79", after := #[{ on := 37, ground := Ground.data }, { on := 46, ground := Ground.data }], guard := Option.none }) (v := .bool true) rfl (by kernel_rfl) (by kernel_rfl) (by kernel_rfl) (fun _ _ _ h => h) (Or.inl ⟨by rfl, ?_⟩) hHeld ?_
      · intro W hSw
        go_simp
      simp only [Act.put, List.setIfInBounds_toArray, List.set_cons_zero, List.set_cons_succ]
      refine wpAnyH_take (i := 48) (oi := { dst := Option.some 123, op := Op.move (Operand.tmp 122), type := 4, pos := "law.go:79", after := #[{ on := 47, ground := Ground.data }, { on := 46, ground := Ground.chain }], guard := Option.none }) (v := .bool true) rfl (by kernel_rfl) (by kernel_rfl) (by kernel_rfl) (fun _ _ _ h => h) (Or.inl ⟨by rfl, ?_⟩) hHeld ?_
      · intro W hSw
        go_simp
      simp only [Act.put, List.setIfInBounds_toArray, List.set_cons_zero, List.set_cons_succ]
      refine wpAnyH_take (i := 49) (oi := { dst := Option.some 124, op := Op.load 31 (Operand.tmp 7), type := 31, pos := "law.go:79", after := #[{ on := 48, ground := Ground.guard }], guard := Option.some (48, true) }) (v := .agg #[.int .i64 lim, .slice A7 n c7]) rfl (by kernel_rfl) (by kernel_rfl) (by kernel_rfl) (fun _ _ _ h => h) (Or.inl ⟨by rfl, ?_⟩) hHeld ?_
      · intro W hSw
        obtain ⟨q0, q1⟩ := H7.out _ (HB.out.trans (hSw.mono HB.out.size))
        go_simp
      simp only [Act.put, List.setIfInBounds_toArray, List.set_cons_zero, List.set_cons_succ]
      refine wpAnyH_take (i := 50) (oi := { dst := Option.some 125, op := Op.load 24 (Operand.tmp 3), type := 24, pos := "law.go:79", after := #[{ on := 48, ground := Ground.guard }], guard := Option.some (48, true) }) (v := .agg #[.int .i64 lim, .slice A n c]) rfl (by kernel_rfl) (by kernel_rfl) (by kernel_rfl) (fun _ _ _ h => h) (Or.inl ⟨by rfl, ?_⟩) hHeld ?_
      · intro W hSw
        obtain ⟨⟨x0, x1⟩, -, -⟩ := H3.out _ (HB.out.trans (hSw.mono HB.out.size))
        go_simp
      simp only [Act.put, List.setIfInBounds_toArray, List.set_cons_zero, List.set_cons_succ]
      refine wpAnyH_ready (rs := [51]) (by kernel_rfl) (by simp) ?_
      refine AllReadyH.cons (o := { dst := Option.some 126, op := Op.call { callee := Callee.value (Operand.func 14), args := #[Operand.tmp 124, Operand.tmp 125], argTypes := #[31, 24] }, type := 4, pos := "law.go:79", after := #[{ on := 49, ground := Ground.data }, { on := 50, ground := Ground.data }, { on := 48, ground := Ground.chain }, { on := 48, ground := Ground.guard }], guard := Option.some (48, true) }) rfl (fun K hK => ?_) AllReadyH.nil
      go_simp
      refine (same_any lim l A7 n c7 A n c v124 (I7.out.below HQ.out) (HIQ.out v124 HQ.out)).mono ?_
      rintro y v125 ⟨rfl, hb⟩
      have hbS := HX.out.trans (hb.mono HX.out.size)
      refine hK.out _ _ hbS (fun hHeld2 => ?_)
      clear hK K hHeld hHeld2
      have E20 := Lib.hid (E20.out.below hbS)
      have E21 := Lib.hid (E21.out.below hbS)
      have HB := Lib.hid (HB.out.trans (hbS.mono HB.out.size))
      have HQ := Lib.hid HB.out
      refine heldStrong (S' := fun W => Below v125.heap.size v125 W) (fun W hW => hbS.trans (hW.mono hbS.size)) _ _ _ _ ?_
      have hHeld : Below v125.heap.size v125 v125 := Below.refl _ _
      have HX := Lib.hid (Below.refl v125.heap.size v125)
      clear hbS hb
      refine wpAnyH_take (i := 52) (oi := { dst := Option.some 127, op := Op.pick (Operand.tmp 123) (Operand.tmp 126) (Operand.const (Value.bool false)), type := 4, pos := "law.go:79", after := #[{ on := 48, ground := Ground.data }, { on := 51, ground := Ground.data }], guard := Option.none }) (v := .bool true) rfl (by kernel_rfl) (by kernel_rfl) (by kernel_rfl) (fun _ _ _ h => h) (Or.inl ⟨by rfl, ?_⟩) hHeld ?_
      · intro W hSw
        go_simp
      simp only [Act.put, List.setIfInBounds_toArray, List.set_cons_zero, List.set_cons_succ]
      refine wpAnyH_take (i := 53) (oi := { dst := Option.some 128, op := Op.move (Operand.tmp 127), type := 4, pos := "law.go:79", after := #[{ on := 52, ground := Ground.data }, { on := 51, ground := Ground.chain }], guard := Option.none }) (v := .bool true) rfl (by kernel_rfl) (by kernel_rfl) (by kernel_rfl) (fun _ _ _ h => h) (Or.inl ⟨by rfl, ?_⟩) hHeld ?_
      · intro W hSw
        go_simp
      simp only [Act.put, List.setIfInBounds_toArray, List.set_cons_zero, List.set_cons_succ]
      refine wpAnyH_ready (rs := [54]) (by kernel_rfl) (by simp) ?_
      refine AllReadyH.cons (o := { dst := Option.some 129, op := Op.call { callee := Callee.value (Operand.func 5), args := #[], argTypes := #[] }, type := 4, pos := "law.go:79", after := #[{ on := 53, ground := Ground.chain }, { on := 53, ground := Ground.guard }], guard := Option.some (53, true) }) rfl (fun K hK => ?_) AllReadyH.nil
      go_simp
      refine (CS.out v125).mono ?_
      rintro y v126 ⟨rfl, hb⟩
      have hbS := HX.out.trans (hb.mono HX.out.size)
      refine hK.out _ _ hbS (fun hHeld2 => ?_)
      clear hK K hHeld hHeld2
      have E20 := Lib.hid (E20.out.below hbS)
      have E21 := Lib.hid (E21.out.below hbS)
      have HB := Lib.hid (HB.out.trans (hbS.mono HB.out.size))
      have HQ := Lib.hid HB.out
      refine heldStrong (S' := fun W => Below v126.heap.size v126 W) (fun W hW => hbS.trans (hW.mono hbS.size)) _ _ _ _ ?_
      have hHeld : Below v126.heap.size v126 v126 := Below.refl _ _
      have HX := Lib.hid (Below.refl v126.heap.size v126)
      clear hbS hb
      refine wpAnyH_take (i := 55) (oi := { dst := Option.some 130, op := Op.pick (Operand.tmp 128) (Operand.tmp 129) (Operand.const (Value.bool false)), type := 4, pos := "law.go:79", after := #[{ on := 53, ground := Ground.data }, { on := 54, ground := Ground.data }], guard := Option.none }) (v := .bool true) rfl (by kernel_rfl) (by kernel_rfl) (by kernel_rfl) (fun _ _ _ h => h) (Or.inl ⟨by rfl, ?_⟩) hHeld ?_
      · intro W hSw
        go_simp
      simp only [Act.put, List.setIfInBounds_toArray, List.set_cons_zero, List.set_cons_succ]
      refine wpAnyH_take (i := 56) (oi := { dst := Option.some 6, op := Op.assign (Operand.tmp 130), type := 4, pos := "law.go:79", after := #[{ on := 55, ground := Ground.data }, { on := 54, ground := Ground.chain }, { on := 0, ground := Ground.phase }, { on := 1, ground := Ground.phase }, { on := 2, ground := Ground.phase }, { on := 3, ground := Ground.phase }, { on := 4, ground := Ground.phase }, { on := 5, ground := Ground.phase }, { on := 6, ground := Ground.phase }, { on := 7, ground := Ground.phase }, { on := 8, ground := Ground.phase }, { on := 9, ground := Ground.phase }, { on := 10, ground := Ground.phase }, { on := 11, ground := Ground.phase }, { on := 12, ground := Ground.phase }, { on := 13, ground := Ground.phase }, { on := 14, ground := Ground.phase }, { on := 15, ground := Ground.phase }, { on := 16, ground := Ground.phase }, { on := 17, ground := Ground.phase }, { on := 18, ground := Ground.phase }, { on := 19, ground := Ground.phase }, { on := 20, ground := Ground.phase }, { on := 21, ground := Ground.phase }, { on := 22, ground := Ground.phase }, { on := 23, ground := Ground.phase }, { on := 24, ground := Ground.phase }, { on := 25, ground := Ground.phase }, { on := 26, ground := Ground.phase }, { on := 27, ground := Ground.phase }, { on := 28, ground := Ground.phase }, { on := 29, ground := Ground.phase }, { on := 30, ground := Ground.phase }, { on := 31, ground := Ground.phase }, { on := 32, ground := Ground.phase }, { on := 33, ground := Ground.phase }, { on := 34, ground := Ground.phase }, { on := 35, ground := Ground.phase }, { on := 36, ground := Ground.phase }, { on := 37, ground := Ground.phase }, { on := 38, ground := Ground.phase }, { on := 39, ground := Ground.phase }, { on := 40, ground := Ground.phase }, { on := 41, ground := Ground.phase }, { on := 42, ground := Ground.phase }, { on := 43, ground := Ground.phase }, { on := 44, ground := Ground.phase }, { on := 45, ground := Ground.phase }, { on := 46, ground := Ground.phase }, { on := 47, ground := Ground.phase }, { on := 48, ground := Ground.phase }, { on := 49, ground := Ground.phase }, { on := 50, ground := Ground.phase }, { on := 51, ground := Ground.phase }, { on := 52, ground := Ground.phase }, { on := 53, ground := Ground.phase }, { on := 54, ground := Ground.phase }, { on := 55, ground := Ground.phase }], guard := Option.none }) (v := .bool true) rfl (by kernel_rfl) (by kernel_rfl) (by kernel_rfl) (fun _ _ _ h => h) (Or.inl ⟨by rfl, ?_⟩) hHeld ?_
      · intro W hSw
        go_simp
      simp only [Act.put, List.setIfInBounds_toArray, List.set_cons_zero, List.set_cons_succ]
      clear hHeld
      refine wpAnyH_done (by kernel_rfl) ?_ _
      go_wp2_with fail
      go_ret
      exact ⟨rfl, HE.out.trans ((KB.out.trans (HQ.out.mono KB.out.size)).mono HE.out.size)⟩

end Go.Proofs.YtojejcafahighaaDoor.pk
