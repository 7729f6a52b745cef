/-
  The law PackBack's own walk: what is laid is taken off as it was, and is all; as something else it is refused.
-/
import Derived.Test.YteblpfnmcbehmaaDoorThings
import Derived.Test.YteblpfnmcbehmaaDoorKind
import Derived.Test.YteblpfnmcbehmaaDoorTailQ
import Derived.Deep.RegionHeld3
import Derived.Deep.DeepCutAuto
import Derived.Deep.CutBlock
import Derived.BigQuiet
namespace Go.Proofs.YteblpfnmcbehmaaDoor.pk
open Go Go.RowKit
set_option maxRecDepth 100000

set_option maxHeartbeats 2000000 in
theorem back_true (vl : Value) (l : List Th) (w : World) (hs : Std w) (h : Ths w w.heap.size vl l) (hbig : 10000 + weight l ≤ 140737488355328) :
    Calls Tryd.prog 4 #[vl] w fun x w' => x = .returned (.bool true) ∧ Below w.heap.size w w' := by
  have hG := hs.size
  have HS := Lib.hid hs
  have H := Lib.hid h
  obtain ⟨A, c, rfl, hc1, hc2, hok, hel⟩ := h
  have HOK := Lib.hid hok
  have HEL := Lib.hid hel
  obtain ⟨N, hN⟩ : ∃ N, N = min l.length 200 := ⟨_, rfl⟩
  have hN1 : N ≤ l.length := by omega
  have hN2 : N ≤ 200 := by omega
  have i3 : (l.length : Int) ≤ (c : Int) := by omega
  have HN := Lib.hid hN
  clear hs hok hel hN
  go_enter Tryd.func4, Tryd.ntmps4
  go_upto_block 0 with (go_at_call 8; refine (New_any _).mono ?_; rintro x w1 ⟨rfl, h1, hb1⟩; have H1 := Lib.hid h1; have HB1 := Lib.hid hb1; clear h1 hb1)
  have hzw1 := HB1.out.size
  go_cut [3, 4] (fun pp _ W => pp = .pointer (some ⟨w.heap.size, 0, none⟩) ∧ (∃ v, WR W w.heap.size w.heap.size v (flat (l.take N))) ∧ Below w.heap.size w W)
  case first =>
    go_wp2_with fail
    go_loopw [3, 4] (fun pp ii wr => ∃ j : Nat, j ≤ N ∧ pp = .pointer (some ⟨w.heap.size, 0, none⟩) ∧ ii = .int .i64 (j : Int) ∧ ∃ v, WR wr w.heap.size w.heap.size v (flat (l.take j)) ∧ Below w.heap.size w wr) (fun _ ii _ => N - (intOf ii).toNat)
    case atStart => exact ⟨0, by omega, rfl, rfl, _, by simpa [flat] using H1.out, HB1.out⟩
    case round =>
      obtain ⟨j, hj, rfl, rfl, v, hw, hb⟩ := hrel
      have HW := Lib.hid hw
      have HB := Lib.hid hb
      clear hw hb
      by_cases hlt : j < N
      · have hjl : j < l.length := by omega
        obtain ⟨b, off, A', c', rfl, hbB, q0, q1, q2, hsl⟩ := (H.out.below HB.out).at_ j hjl
        have hx := HOK.out l[j] (List.getElem_mem _)
        have hfl := flat_next l HOK.out j hjl
        have htk : flat (l.take (j + 1)) = flat (l.take j) ++ layB l[j].kd l[j].n l[j].t := by rw [List.take_succ_eq_append_getElem hjl, flat_snoc]
        have HTK := Lib.hid htk
        have HSL := Lib.hid hsl
        have HX := Lib.hid hx
        have HFL := Lib.hid hfl
        have i1 : (j : Int) < (l.length : Int) := by omega
        have i2 : (j : Int) < 200 := by omega
        generalize l[j] = x at q0 q1 q2 HTK HSL HX HFL
        clear hx hfl htk hsl
        have hzr := HB.out.size
        go_wp2_with (go_at_call 24; go_must (refine (lay_any w.heap.size w.heap.size v (flat (l.take j)) x.kd x.n A' _ c' x.t w.heap.size (Nat.le_refl _) _ (HS.out.below hG HB.out) hG HW.out HX.out.1 HX.out.2.1 HSL.out (by have := HFL.out; omega)).mono ?_; rw [← HTK.out]; rintro y w2 ⟨v2, rfl, h2, k2⟩; have H2 := Lib.hid h2; have HB2 := Lib.hid (HB.out.trans k2.below); clear h2 k2))
        go_roundw
        case rel => exact ⟨j + 1, by omega, rfl, by go_num, v2, H2.out, HB2.out⟩
        case measure => simp [intOf]; omega
      · obtain rfl : j = N := by omega
        by_cases hjl : j < l.length
        · have i1 : (j : Int) < (l.length : Int) := by omega
          have i2 : ¬ (j : Int) < 200 := by have := HN.out; omega
          go_wp2_with fail
          go_meet
          exact ⟨rfl, ⟨v, HW.out⟩, HB.out⟩
        · have i1 : ¬ (j : Int) < (l.length : Int) := by omega
          go_wp2_with fail
          go_meet
          exact ⟨rfl, ⟨v, HW.out⟩, HB.out⟩
  case rest =>
    obtain ⟨rfl, ⟨v, hw⟩, hb⟩ := hcut
    have HW := Lib.hid hw
    have HB := Lib.hid hb
    clear hw hb
    obtain ⟨L, hL⟩ : ∃ L, L = flat (l.take N) := ⟨_, rfl⟩
    have hLl : L.length ≤ 140737488352000 := by rw [hL]; have := flat_take l HOK.out N; omega
    rw [← hL] at HW
    have HWd := Lib.hid (Writer_Done _ _ _ _ _ HW.out (by omega))
    have HLd := Lib.hid hL
    have hzr := HB.out.size
    obtain ⟨N2, hN2'⟩ : ∃ N2, N2 = L.length := ⟨_, rfl⟩
    have HNL := Lib.hid hN2'
    have HLL := Lib.hid hLl
    clear hL hLl hN2'
    go_upto_block 2 with (first
      | (go_at_call 18; go_must (refine HWd.out.mono ?_; rintro y w2 ⟨u, rfl, hO2, hb2⟩; obtain ⟨A2, c2, hu2, hx2⟩ := Sl.of_own hO2 w2.heap.size (fun g hg => (hO2.lt g hg).2); rw [← HNL.out] at hu2; subst hu2; have T2 := Lib.hid (show Sl w2 w2.heap.size (.slice A2 N2 c2) L from ⟨A2, c2, by rw [HNL.out], hx2⟩); have HB2 := Lib.hid (HB.out.trans (hb2.mono HB.out.size)); have hz2 := HB2.out.size; clear hO2 hb2 hx2))
      | (go_at_call 13; go_must (refine (Read_any A2 N2 c2 L _ _ T2.out (by have := HLL.out; omega)).mono ?_; rintro y w3 ⟨p, v3, rfl, hp3, h3, hb3⟩; have H3 := Lib.hid h3; have HB3 := Lib.hid hb3; clear h3 hb3)))
    have hz3 := HB3.out.size
    go_cut [7, 8, 9, 10] (fun _ _ _ _ W => (∃ v, RD W p v [] 0) ∧ Below w2.heap.size w2 W)
    case first =>
      go_wp2_with fail
      go_loopw [7] (fun ii wr => ∃ j : Nat, j ≤ N ∧ ii = .int .i64 (j : Int) ∧ ∃ v, RD wr p v (flat ((l.take N).drop j)) 0 ∧ Below w2.heap.size w2 wr) (fun ii _ => N - (intOf ii).toNat)
      case atStart => exact ⟨0, by omega, rfl, v3, by rw [List.drop_zero, ← HLd.out]; exact H3.out, HB3.out⟩
      case round =>
        obtain ⟨j, hj, rfl, v4, hr, hbr⟩ := hrel
        have HBr := Lib.hid hbr
        have HBw := Lib.hid (HB2.out.trans (hbr.mono hz2))
        by_cases hlt : j < N
        · have hjl : j < l.length := by omega
          have hdl : j < (l.take N).length := by rw [List.length_take]; omega
          obtain ⟨b, off, A', c', rfl, hbB, q0, q1, q2, hsl⟩ := (H.out.below HBw.out).at_ j hjl
          have hx := HOK.out l[j] (List.getElem_mem _)
          have hdr : flat ((l.take N).drop j) = layB l[j].kd l[j].n l[j].t ++ flat ((l.take N).drop (j + 1)) := by rw [List.drop_eq_getElem_cons hdl, flat_cons, List.getElem_take]
          rw [hdr] at hr
          have HR := Lib.hid hr
          have HSL := Lib.hid hsl
          have HX := Lib.hid hx
          have HFL := Lib.hid (flat_next l HOK.out j hjl)
          have i1 : (j : Int) < (l.length : Int) := by omega
          have i2 : (j : Int) < 200 := by omega
          generalize hRe : flat ((l.take N).drop (j + 1)) = R at HR
          have HRe := Lib.hid hRe
          clear hRe
          generalize l[j] = x at q0 q1 q2 HR HSL HX HFL
          clear hr hx hdr hsl hbr
          have hzr2 := HBr.out.size
          go_upto_region 13 with fail
          obtain ⟨wA, hwA⟩ : ∃ wA, wA = wr.alloc (Obj.cells #[Value.int IntKind.i64 x.kd, Value.int IntKind.i64 x.n, Value.slice A' x.t.length c'] 52) := ⟨_, rfl⟩
          rw [← hwA]
          have hbA : Below wr.heap.size wr wA := by rw [hwA]; exact (Below.refl _ _).alloc (Nat.le_refl _) _
          have hXA : wr.heap.size < wA.heap.size := by rw [hwA]; simp
          have qA0 : wA.cell? ⟨wr.heap.size, 0, none⟩ = some (.int .i64 x.kd) := by rw [hwA]; simp
          have qA1 : wA.cell? ⟨wr.heap.size, 1, none⟩ = some (.int .i64 x.n) := by rw [hwA]; simp
          have qA2 : wA.cell? ⟨wr.heap.size, 2, none⟩ = some (.slice A' x.t.length c') := by rw [hwA]; simp
          have hplt := HR.out.lt
          have HA := Lib.hid hbA
          have hb2A : Below w2.heap.size w2 wA := HBr.out.trans (hbA.mono hzr2)
          have HB2A := Lib.hid hb2A
          have hbwA : Below w.heap.size w wA := HB2.out.trans (hb2A.mono hz2)
          have HSA := Lib.hid (HS.out.below hG hbwA)
          have HRA := Lib.hid (HR.out.below hbA hplt)
          have HSLA := Lib.hid (HSL.out.below (hbA.mono (Nat.le_trans hz2 hzr2)))
          have hd : Below wA.heap.size wA wA.drew := (Below.refl _ _).drew
          have HSd := Lib.hid (HSA.out.below (Nat.le_trans hG (Nat.le_trans hbwA.size (Nat.le_refl _))) hd)
          have HRd := Lib.hid (HRA.out.below hd HRA.out.lt)
          have HSLd := Lib.hid (HSLA.out.below (hd.mono hbwA.size))
          have HB2d := Lib.hid (hb2A.trans (hd.mono hb2A.size))
          have qd1 : wA.drew.cell? ⟨wr.heap.size, 1, none⟩ = some (.int .i64 x.n) := (hd.cell (p := ⟨wr.heap.size, 1, none⟩) hXA).trans qA1
          have qd2 : wA.drew.cell? ⟨wr.heap.size, 2, none⟩ = some (.slice A' x.t.length c') := (hd.cell (p := ⟨wr.heap.size, 2, none⟩) hXA).trans qA2
          have hXd : wr.heap.size < wA.drew.heap.size := hXA
          have hzd : w2.heap.size ≤ wA.drew.heap.size := hb2A.size
          clear hwA hbA hb2A hbwA hd
          have hq : five x.kd = 0 ∨ five x.kd = 1 ∨ five x.kd = 2 ∨ five x.kd = 3 ∨ five x.kd = 4 := by have := five_lt x.kd; omega
          have hwr : IntKind.u64.wrap x.kd = x.kd % 18446744073709551616 := IntKind.wrap_u64 x.kd
          have hf : (five x.kd : Int) = x.kd % 18446744073709551616 % 5 := by unfold five; omega
          have ha0 : 0 ≤ x.kd % 18446744073709551616 := by omega
          have ha1 : x.kd % 18446744073709551616 < 18446744073709551616 := by omega
          generalize x.kd % 18446744073709551616 = a5 at hwr hf ha0 ha1
          rcases hq with hq | hq | hq | hq | hq
          · have e2 : a5 % 5 = 0 := by omega
            obtain ⟨u, hu⟩ : ∃ u, u = (x.n % 18446744073709551616).toNat := ⟨_, rfl⟩
            have hul : u < 18446744073709551616 := by omega
            have hun : IntKind.u64.wrap x.n = (u : Int) := by rw [IntKind.wrap_u64]; omega
            have hlay : layB x.kd x.n x.t = lUint u := by unfold layB; rw [if_pos hq, hu]
            rw [hlay] at HRd
            have HU := Lib.hid hul
            clear hq hf hlay hu hul
            go_wp2_with fail
            go_region_held3 (fun W => W.cell? ⟨wr.heap.size, 1, none⟩ = some (.int .i64 x.n))
              (first | assumption | go_keep)
              (first
                | (go_at_call 25; go_must (refine (Kind_ok p v4 110 (Lib.decDigits u ++ [59] ++ R) _ HRd.out (Or.inl rfl)).mono ?_; rintro y w5 ⟨rfl, rfl⟩))
                | (go_at_call 14; go_must (refine (Uint_ok p 18446744073709551615 v4 _ R u _ HSd.out HRd.out (rdUint_lay _ u HU.out (by have := HU.out; omega) R)).mono ?_; rintro y w6 ⟨v6, rfl, h6, hg6⟩; have H6 := Lib.hid h6; have HB6 := Lib.hid (HB2d.out.grown hg6 hzd (fun k hk => by injection hk with hk; omega)); have q61 := (World.cell?_of_block (a := ⟨wr.heap.size, 1, none⟩) (hg6.block wr.heap.size hXd (fun e => by injection e with e; omega))).trans qd1; clear h6 hg6)))
            go_wp2_with fail
            go_roundw
            case rel => exact ⟨j + 1, by omega, by go_num, v6, by rw [HRe.out]; exact H6.out, HB6.out⟩
            case measure => simp [intOf]; omega
          · have e2 : a5 % 5 = 1 := by omega
            have hlay : layB x.kd x.n x.t = lInt x.n := by unfold layB; rw [if_neg (by omega), if_pos hq]
            rw [hlay] at HRd
            clear hq hf hlay
            go_wp2_with fail
            go_region_held3 (fun W => W.cell? ⟨wr.heap.size, 1, none⟩ = some (.int .i64 x.n))
              (first | assumption | go_keep)
              (first
                | (go_at_call 25; go_must (refine (Kind_ok p v4 105 (Lib.itoa x.n ++ [59] ++ R) _ HRd.out (Or.inr (Or.inl rfl))).mono ?_; rintro y w5 ⟨rfl, rfl⟩))
                | (go_at_call 15; go_must (refine (Int_ok p v4 _ R x.n _ HSd.out HRd.out (rdInt_lay x.n HX.out.1 HX.out.2.1 R)).mono ?_; rintro y w6 ⟨v6, rfl, h6, hg6⟩; have H6 := Lib.hid h6; have HB6 := Lib.hid (HB2d.out.grown hg6 hzd (fun k hk => by injection hk with hk; omega)); have q61 := (World.cell?_of_block (a := ⟨wr.heap.size, 1, none⟩) (hg6.block wr.heap.size hXd (fun e => by injection e with e; omega))).trans qd1; clear h6 hg6)))
            go_wp2_with fail
            go_roundw
            case rel => exact ⟨j + 1, by omega, by go_num, v6, by rw [HRe.out]; exact H6.out, HB6.out⟩
            case measure => simp [intOf]; omega
          · have e2 : a5 % 5 = 2 := by omega
            by_cases hn0 : (0 : Int) < x.n
            · have hlay : layB x.kd x.n x.t = lBool true := by unfold layB; rw [if_neg (by omega), if_neg (by omega), if_pos hq, decide_eq_true hn0]
              rw [hlay] at HRd
              clear hq hf hlay
              go_wp2_with fail
              go_region_held3 (fun W => W.cell? ⟨wr.heap.size, 1, none⟩ = some (.int .i64 x.n))
                (first | assumption | go_keep)
                (first
                  | (go_at_call 25; go_must (refine (Kind_ok p v4 121 R _ HRd.out (Or.inr (Or.inr (Or.inl rfl)))).mono ?_; rintro y w5 ⟨rfl, rfl⟩))
                  | (go_at_call 26; go_must (refine (Bool_ok p v4 _ R true _ HRd.out (rdBool_lay true R)).mono ?_; rintro y w6 ⟨v6, rfl, h6, hg6⟩; have H6 := Lib.hid h6; have HB6 := Lib.hid (HB2d.out.grown hg6 hzd (fun k hk => by injection hk with hk; omega)); have q61 := (World.cell?_of_block (a := ⟨wr.heap.size, 1, none⟩) (hg6.block wr.heap.size hXd (fun e => by injection e with e; omega))).trans qd1; clear h6 hg6)))
              go_wp2_with fail
              go_roundw
              case rel => exact ⟨j + 1, by omega, by go_num, v6, by rw [HRe.out]; exact H6.out, HB6.out⟩
              case measure => simp [intOf]; omega
            · have hlay : layB x.kd x.n x.t = lBool false := by unfold layB; rw [if_neg (by omega), if_neg (by omega), if_pos hq, decide_eq_false hn0]
              rw [hlay] at HRd
              clear hq hf hlay
              go_wp2_with fail
              go_region_held3 (fun W => W.cell? ⟨wr.heap.size, 1, none⟩ = some (.int .i64 x.n))
                (first | assumption | go_keep)
                (first
                  | (go_at_call 25; go_must (refine (Kind_ok p v4 122 R _ HRd.out (Or.inr (Or.inr (Or.inr (Or.inl rfl))))).mono ?_; rintro y w5 ⟨rfl, rfl⟩))
                  | (go_at_call 26; go_must (refine (Bool_ok p v4 _ R false _ HRd.out (rdBool_lay false R)).mono ?_; rintro y w6 ⟨v6, rfl, h6, hg6⟩; have H6 := Lib.hid h6; have HB6 := Lib.hid (HB2d.out.grown hg6 hzd (fun k hk => by injection hk with hk; omega)); have q61 := (World.cell?_of_block (a := ⟨wr.heap.size, 1, none⟩) (hg6.block wr.heap.size hXd (fun e => by injection e with e; omega))).trans qd1; clear h6 hg6)))
              go_wp2_with fail
              go_roundw
              case rel => exact ⟨j + 1, by omega, by go_num, v6, by rw [HRe.out]; exact H6.out, HB6.out⟩
              case measure => simp [intOf]; omega
          · have e2 : a5 % 5 = 3 := by omega
            have hlay : layB x.kd x.n x.t = lText x.t := by unfold layB; rw [if_neg (by omega), if_neg (by omega), if_neg (by omega), if_pos hq]
            rw [hlay] at HRd
            have hcd := conv_bytes HSLd.out
            have hlen := HSLd.out.len
            have HLEN := Lib.hid hlen
            clear hq hf hlay hlen
            go_wp2_with fail
            go_region_held3 (fun W => W.cell? ⟨wr.heap.size, 2, none⟩ = some (.slice A' x.t.length c') ∧ (convert 24 9 (.slice A' x.t.length c')).run Tryd.prog W = .ok (.string ⟨x.t.toArray⟩) W)
              (first | (refine ⟨?_, ?_⟩ <;> assumption) | go_keep)
              (first
                | (go_at_call 25; go_must (refine (Kind_ok p v4 116 (Lib.decDigits x.t.length ++ [58] ++ x.t ++ R) _ HRd.out (Or.inr (Or.inr (Or.inr (Or.inr (Or.inl rfl)))))).mono ?_; rintro y w5 ⟨rfl, rfl⟩))
                | (go_at_call 27; go_must (refine (Text_ok p (x.t.length : Int) v4 _ R x.t _ HSd.out (by have := HLEN.out; omega) HRd.out (rdText_lay x.t R (by have := HLEN.out; omega) _ (Int.le_refl _))).mono ?_; rintro y w6 ⟨v6, rfl, h6, hg6⟩; have H6 := Lib.hid h6; have HB6 := Lib.hid (HB2d.out.grown hg6 hzd (fun k hk => by injection hk with hk; omega)); have q62 := (World.cell?_of_block (a := ⟨wr.heap.size, 2, none⟩) (hg6.block wr.heap.size hXd (fun e => by injection e with e; omega))).trans qd2; have hc6 := conv_bytes (HSLd.out.grown hg6 (Nat.le_trans hz2 hp3) (Nat.le_trans hz2 hzd)); clear h6 hg6)))
            go_wp2_with fail
            go_roundw
            case rel => exact ⟨j + 1, by omega, by go_num, v6, by rw [HRe.out]; exact H6.out, HB6.out⟩
            case measure => simp [intOf]; omega
          · have e2 : a5 % 5 = 4 := by omega
            have hlay : layB x.kd x.n x.t = lBytes x.t := by unfold layB; rw [if_neg (by omega), if_neg (by omega), if_neg (by omega), if_neg (by omega)]
            rw [hlay] at HRd
            have hcd := conv_bytes HSLd.out
            have hlen := HSLd.out.len
            have HLEN := Lib.hid hlen
            clear hq hf hlay hlen
            go_wp2_with fail
            refine wp_region_held_drew (S := fun W => W.cell? ⟨wr.heap.size, 2, none⟩ = some (.slice A' x.t.length c') ∧ (convert 24 9 (.slice A' x.t.length c')).run Tryd.prog W = .ok (.string ⟨x.t.toArray⟩) W) (by kernel_rfl) ⟨qd2, hcd⟩ (fun hHeld => ?_)
            refine wpAnyH_take (i := 0) (oi := { dst := some 52, op := Op.move (Operand.tmp 6), type := 31, pos := "law.go:136", after := #[], guard := Option.none }) (v := .pointer (some ⟨p, 0, none⟩)) rfl (by kernel_rfl) (by kernel_rfl) (by kernel_rfl) (fun _ _ _ h => h) (Or.inl ⟨by rfl, ?_⟩) hHeld ?_
            · intro W hSw
              obtain ⟨hs1, hs2⟩ := hSw
              go_simp
            simp only [Act.put, List.setIfInBounds_toArray, List.set_cons_zero, List.set_cons_succ]
            refine wpAnyH_ready (rs := [1]) (by kernel_rfl) (by simp) ?_
            refine AllReadyH.cons (o := { dst := some 53, op := Op.call { callee := Callee.value (Operand.func 25), args := #[Operand.tmp 52], argTypes := #[31] }, type := 5, pos := "law.go:136", after := #[{ on := 0, ground := Ground.data }], guard := Option.none }) rfl (fun K hK => ?_) AllReadyH.nil
            go_simp
            refine (Kind_ok p v4 98 (Lib.decDigits x.t.length ++ [58] ++ x.t ++ R) _ HRd.out (Or.inr (Or.inr (Or.inr (Or.inr (Or.inr rfl)))))).mono ?_
            rintro y w5 ⟨rfl, rfl⟩
            refine hK.out _ _ hHeld (fun hHeld => ?_)
            clear hK K
            refine wpAnyH_take (i := 2) (oi := { dst := some 54, op := Op.binOp BinOp.eql 5 (Operand.tmp 53) (Operand.const (Value.int IntKind.u8 98)) 5, type := 4, pos := "law.go:136", after := #[{ on := 1, ground := Ground.data }], guard := Option.none }) (v := .bool true) rfl (by kernel_rfl) (by kernel_rfl) (by kernel_rfl) (fun _ _ _ h => h) (Or.inl ⟨by rfl, ?_⟩) hHeld ?_
            · intro W hSw
              obtain ⟨hs1, hs2⟩ := hSw
              go_simp
            simp only [Act.put, List.setIfInBounds_toArray, List.set_cons_zero, List.set_cons_succ]
            refine wpAnyH_take (i := 3) (oi := { dst := some 55, op := Op.move (Operand.tmp 54), type := 4, pos := "law.go:136", after := #[{ on := 2, ground := Ground.data }, { on := 1, ground := Ground.chain }], guard := Option.none }) (v := .bool true) rfl (by kernel_rfl) (by kernel_rfl) (by kernel_rfl) (fun _ _ _ h => h) (Or.inl ⟨by rfl, ?_⟩) hHeld ?_
            · intro W hSw
              obtain ⟨hs1, hs2⟩ := hSw
              go_simp
            simp only [Act.put, List.setIfInBounds_toArray, List.set_cons_zero, List.set_cons_succ]
            refine wpAnyH_take (i := 4) (oi := { dst := some 56, op := Op.move (Operand.tmp 6), type := 31, pos := "law.go:136", after := #[{ on := 3, ground := Ground.guard }], guard := Option.some (3, true) }) (v := .pointer (some ⟨p, 0, none⟩)) rfl (by kernel_rfl) (by kernel_rfl) (by kernel_rfl) (fun _ _ _ h => h) (Or.inl ⟨by rfl, ?_⟩) hHeld ?_
            · intro W hSw
              obtain ⟨hs1, hs2⟩ := hSw
              go_simp
            simp only [Act.put, List.setIfInBounds_toArray, List.set_cons_zero, List.set_cons_succ]
            refine wpAnyH_take (i := 5) (oi := { dst := some 57, op := Op.fieldAddr 52 (Operand.tmp 8) 2, type := 0, pos := "law.go:136", after := #[{ on := 3, ground := Ground.guard }], guard := Option.some (3, true) }) (v := .pointer (some ⟨wr.heap.size, 2, none⟩)) rfl (by kernel_rfl) (by kernel_rfl) (by kernel_rfl) (fun _ _ _ h => h) (Or.inl ⟨by rfl, ?_⟩) hHeld ?_
            · intro W hSw
              obtain ⟨hs1, hs2⟩ := hSw
              go_simp
            simp only [Act.put, List.setIfInBounds_toArray, List.set_cons_zero, List.set_cons_succ]
            refine wpAnyH_take (i := 6) (oi := { dst := some 58, op := Op.load 24 (Operand.tmp 57), type := 24, pos := "law.go:136", after := #[{ on := 5, ground := Ground.data }, { on := 3, ground := Ground.guard }], guard := Option.some (3, true) }) (v := .slice A' x.t.length c') rfl (by kernel_rfl) (by kernel_rfl) (by kernel_rfl) (fun _ _ _ h => h) (Or.inl ⟨by rfl, ?_⟩) hHeld ?_
            · intro W hSw
              obtain ⟨hs1, hs2⟩ := hSw
              go_simp
            simp only [Act.put, List.setIfInBounds_toArray, List.set_cons_zero, List.set_cons_succ]
            refine wpAnyH_take (i := 7) (oi := { dst := some 59, op := Op.call { callee := Callee.builtin Builtin.len, args := #[Operand.tmp 58], argTypes := #[24] }, type := 3, pos := "law.go:136", after := #[{ on := 6, ground := Ground.data }, { on := 3, ground := Ground.guard }], guard := Option.some (3, true) }) (v := .int .i64 (x.t.length : Int)) rfl (by kernel_rfl) (by kernel_rfl) (by kernel_rfl) (fun _ _ _ h => h) (Or.inl ⟨by rfl, ?_⟩) hHeld ?_
            · intro W hSw
              obtain ⟨hs1, hs2⟩ := hSw
              go_simp
            simp only [Act.put, List.setIfInBounds_toArray, List.set_cons_zero, List.set_cons_succ]
            refine wpAnyH_take (i := 10) (oi := { dst := some 62, op := Op.fieldAddr 52 (Operand.tmp 8) 2, type := 0, pos := "law.go:136", after := #[{ on := 3, ground := Ground.guard }, { on := 15, ground := Ground.gcOnly Departure.lateStores }], guard := Option.some (3, true) }) (v := .pointer (some ⟨wr.heap.size, 2, none⟩)) rfl (by kernel_rfl) (by kernel_rfl) (by kernel_rfl) (fun _ _ _ h => h) (Or.inl ⟨by rfl, ?_⟩) hHeld ?_
            · intro W hSw
              obtain ⟨hs1, hs2⟩ := hSw
              go_simp
            simp only [Act.put, List.setIfInBounds_toArray, List.set_cons_zero, List.set_cons_succ]
            refine wpAnyH_take (i := 11) (oi := { dst := some 63, op := Op.load 24 (Operand.tmp 62), type := 24, pos := "law.go:136", after := #[{ on := 10, ground := Ground.data }, { on := 3, ground := Ground.guard }, { on := 15, ground := Ground.gcOnly Departure.lateStores }], guard := Option.some (3, true) }) (v := .slice A' x.t.length c') rfl (by kernel_rfl) (by kernel_rfl) (by kernel_rfl) (fun _ _ _ h => h) (Or.inl ⟨by rfl, ?_⟩) hHeld ?_
            · intro W hSw
              obtain ⟨hs1, hs2⟩ := hSw
              go_simp
            simp only [Act.put, List.setIfInBounds_toArray, List.set_cons_zero, List.set_cons_succ]
            refine wpAnyH_take (i := 12) (oi := { dst := some 64, op := Op.convert 24 9 (Operand.tmp 63), type := 9, pos := "law.go:136", after := #[{ on := 11, ground := Ground.data }, { on := 3, ground := Ground.guard }, { on := 15, ground := Ground.gcOnly Departure.lateStores }], guard := Option.some (3, true) }) (v := .string ⟨x.t.toArray⟩) rfl (by kernel_rfl) (by kernel_rfl) (by kernel_rfl) (fun _ _ _ h => h) (Or.inl ⟨by rfl, ?_⟩) hHeld ?_
            · intro W hSw
              obtain ⟨hs1, hs2⟩ := hSw
              go_simp
            simp only [Act.put, List.setIfInBounds_toArray, List.set_cons_zero, List.set_cons_succ]
            refine wpAnyH_ready (rs := [8]) (by kernel_rfl) (by simp) ?_
            refine AllReadyH.cons (o := { dst := some 60, op := Op.call { callee := Callee.value (Operand.func 28), args := #[Operand.tmp 56, Operand.tmp 59], argTypes := #[31, 3] }, type := 24, pos := "law.go:136", after := #[{ on := 4, ground := Ground.data }, { on := 7, ground := Ground.data }, { on := 3, ground := Ground.chain }, { on := 3, ground := Ground.guard }], guard := Option.some (3, true) }) rfl (fun K hK => ?_) AllReadyH.nil
            go_simp
            refine (Bytes_ok p (x.t.length : Int) v4 _ R x.t _ HSd.out (by have := HLEN.out; omega) HRd.out (rdBytes_lay' x.t R (by have := HLEN.out; omega) _ (Int.le_refl _)) (by have := HFL.out; omega)).mono ?_
            rintro y w6 ⟨v6, u6, rfl, hu6, h6, hg6⟩
            have H6 := Lib.hid h6
            have HB6 := Lib.hid (HB2d.out.grown hg6 hzd (fun k hk => by injection hk with hk; omega))
            have q62 := (World.cell?_of_block (a := ⟨wr.heap.size, 2, none⟩) (hg6.block wr.heap.size hXd (fun e => by injection e with e; omega))).trans qd2
            have hc6 := conv_bytes (HSLd.out.grown hg6 (Nat.le_trans hz2 hp3) (Nat.le_trans hz2 hzd))
            obtain ⟨A6, c6, rfl, hx6⟩ := hu6
            obtain ⟨n6, hn6⟩ : ∃ n6, n6 = x.t.length := ⟨_, rfl⟩
            have hu7 : Sl w6 w6.heap.size (.slice A6 x.t.length c6) x.t := ⟨A6, c6, rfl, hx6⟩
            have hcf := conv_bytes hu7
            clear h6 hg6 hx6 hu7 hn6 n6 hHeld
            refine hK.out _ _ ⟨q62, hc6⟩ (fun hHeld => ?_)
            clear hK K
            refine wpAnyH_take (i := 15) (oi := { dst := some 9, op := Op.assign (Operand.const (Value.int IntKind.u8 98)), type := 5, pos := "law.go:136", after := #[{ on := 8, ground := Ground.chain }, { on := 0, ground := Ground.textOnly Departure.lateStores }, { on := 1, ground := Ground.textOnly Departure.lateStoresUnsure }, { on := 2, ground := Ground.textOnly Departure.lateStores }, { on := 3, ground := Ground.textOnly Departure.lateStores }, { on := 4, ground := Ground.textOnly Departure.lateStores }, { on := 5, ground := Ground.textOnly Departure.lateStores }, { on := 6, ground := Ground.textOnly Departure.lateStores }, { on := 7, ground := Ground.textOnly Departure.lateStoresUnsure }, { on := 8, ground := Ground.textOnly Departure.lateStoresUnsure }, { on := 9, ground := Ground.textOnly Departure.lateStores }, { on := 10, ground := Ground.textOnly Departure.lateStores }, { on := 11, ground := Ground.textOnly Departure.lateStores }, { on := 12, ground := Ground.textOnly Departure.lateStores }, { on := 13, ground := Ground.textOnly Departure.lateStores }, { on := 14, ground := Ground.textOnly Departure.lateStores }], guard := Option.none }) (v := .int .u8 98) rfl (by kernel_rfl) (by kernel_rfl) (by kernel_rfl) (fun _ _ _ h => h) (Or.inl ⟨by rfl, ?_⟩) hHeld ?_
            · intro W hSw
              obtain ⟨hs1, hs2⟩ := hSw
              go_simp
            simp only [Act.put, List.setIfInBounds_toArray, List.set_cons_zero, List.set_cons_succ]
            refine wpAnyH_ready (rs := [9]) (by kernel_rfl) (by simp) ?_
            refine AllReadyH.cons (o := { dst := some 61, op := Op.convert 24 9 (Operand.tmp 60), type := 9, pos := "law.go:136", after := #[{ on := 8, ground := Ground.data }, { on := 3, ground := Ground.guard }, { on := 15, ground := Ground.gcOnly Departure.lateStores }], guard := Option.some (3, true) }) rfl (fun K hK => ?_) AllReadyH.nil
            go_simp
            refine hK.out _ _ hHeld (fun hHeld => ?_)
            clear hK K
            refine wpAnyH_take (i := 13) (oi := { dst := some 65, op := Op.binOp BinOp.eql 9 (Operand.tmp 61) (Operand.tmp 64) 9, type := 4, pos := "law.go:136", after := #[{ on := 9, ground := Ground.data }, { on := 12, ground := Ground.data }, { on := 3, ground := Ground.guard }, { on := 15, ground := Ground.gcOnly Departure.lateStores }], guard := Option.some (3, true) }) (v := .bool true) rfl (by kernel_rfl) (by kernel_rfl) (by kernel_rfl) (fun _ _ _ h => h) (Or.inl ⟨by rfl, ?_⟩) hHeld ?_
            · intro W hSw
              obtain ⟨hs1, hs2⟩ := hSw
              go_simp
            simp only [Act.put, List.setIfInBounds_toArray, List.set_cons_zero, List.set_cons_succ]
            refine wpAnyH_take (i := 14) (oi := { dst := some 66, op := Op.pick (Operand.tmp 55) (Operand.tmp 65) (Operand.const (Value.bool false)), type := 4, pos := "law.go:136", after := #[{ on := 3, ground := Ground.data }, { on := 13, ground := Ground.data }, { on := 15, ground := Ground.gcOnly Departure.lateStores }], guard := Option.none }) (v := .bool true) rfl (by kernel_rfl) (by kernel_rfl) (by kernel_rfl) (fun _ _ _ h => h) (Or.inl ⟨by rfl, ?_⟩) hHeld ?_
            · intro W hSw
              obtain ⟨hs1, hs2⟩ := hSw
              go_simp
            simp only [Act.put, List.setIfInBounds_toArray, List.set_cons_zero, List.set_cons_succ]
            refine wpAnyH_take (i := 16) (oi := { dst := some 10, op := Op.assign (Operand.tmp 66), type := 4, pos := "law.go:136", after := #[{ on := 14, ground := Ground.data }, { on := 15, ground := Ground.chain }, { on := 0, ground := Ground.phase }, { on := 1, ground := Ground.phase }, { on := 2, ground := Ground.phase }, { on := 3, ground := Ground.phase }, { on := 4, ground := Ground.phase }, { on := 5, ground := Ground.phase }, { on := 6, ground := Ground.phase }, { on := 7, ground := Ground.phase }, { on := 8, ground := Ground.phase }, { on := 9, ground := Ground.phase }, { on := 10, ground := Ground.phase }, { on := 11, ground := Ground.phase }, { on := 12, ground := Ground.phase }, { on := 13, ground := Ground.phase }, { on := 14, ground := Ground.phase }, { on := 15, ground := Ground.phase }], guard := Option.none }) (v := .bool true) rfl (by kernel_rfl) (by kernel_rfl) (by kernel_rfl) (fun _ _ _ h => h) (Or.inl ⟨by rfl, ?_⟩) hHeld ?_
            · intro W hSw
              obtain ⟨hs1, hs2⟩ := hSw
              go_simp
            simp only [Act.put, List.setIfInBounds_toArray, List.set_cons_zero, List.set_cons_succ]
            refine wpAnyH_done (by kernel_rfl) ?_ _
            go_wp2_with fail
            go_roundw
            case rel => exact ⟨j + 1, by omega, by go_num, v6, by rw [HRe.out]; exact H6.out, HB6.out⟩
            case measure => simp [intOf]; omega
        · obtain rfl : j = N := by omega
          have hnil : flat ((l.take j).drop j) = [] := by rw [List.drop_of_length_le (by rw [List.length_take]; omega)]; rfl
          rw [hnil] at hr
          have HR := Lib.hid hr
          clear hr hbr hnil
          by_cases hjl : j < l.length
          · have i1 : (j : Int) < (l.length : Int) := by omega
            have i2 : ¬ (j : Int) < 200 := by have := HN.out; omega
            go_wp2_with fail
            go_meet
            exact ⟨⟨v4, HR.out⟩, HBr.out⟩
          · have i1 : ¬ (j : Int) < (l.length : Int) := by omega
            go_wp2_with fail
            go_meet
            exact ⟨⟨v4, HR.out⟩, HBr.out⟩
    case rest =>
      obtain ⟨⟨v4, hr⟩, hbc⟩ := hcut
      have HR := Lib.hid hr
      have HBc := Lib.hid hbc
      have HBw := Lib.hid (HB2.out.trans (hbc.mono hz2))
      have HSc := Lib.hid (HS.out.below hG HBw.out)
      have hzc := hbc.size
      clear hr hbc
      have hzl : ((0 : Nat) : Int) = 0 := rfl
      by_cases hl0 : l.length = 0
      · have i1 : ¬ (0 : Int) < (l.length : Int) := by omega
        clear hl0
        go_wp2_with (first
          | (go_at_call 20; go_must (refine (Done_none p v4 _ HR.out).mono ?_; rintro y w5 ⟨rfl, rfl⟩))
          | (go_at_call 22; go_must (refine (Left_any p 0 v4 [] _ HR.out).mono ?_; rintro y w5 ⟨rfl, rfl⟩))
          | (go_at_call 23; go_must (refine (sure_any _ HSc.out).mono ?_; rintro y w6 ⟨rfl, hb6⟩; have HB6 := Lib.hid (HBw.out.trans (hb6.mono HBw.out.size)); clear hb6)))
        go_ret
        exact ⟨rfl, HB6.out⟩
      · have h0l : 0 < l.length := by omega
        have i1 : (0 : Int) < (l.length : Int) := by omega
        have hdl : 0 < (l.take N).length := by rw [List.length_take]; have := HN.out; omega
        obtain ⟨b, off, A', c', rfl, hbB, q0, q1, q2, hsl⟩ := (H.out.below HBw.out).at_ 0 h0l
        have hLd : L = layB l[0].kd l[0].n l[0].t ++ flat ((l.take N).drop 1) := by
          have h1 := HLd.out
          rw [← List.drop_zero (l := l.take N), List.drop_eq_getElem_cons hdl, flat_cons, List.getElem_take] at h1
          exact h1
        have hw := asR_wrong 1 (by omega) l[0].kd l[0].n l[0].t (flat ((l.take N).drop 1)) 0 (by omega)
        rw [← hLd] at hw
        clear hLd hdl hsl q1 q2 hl0
        generalize l[0] = x at q0 hw
        have hwr : IntKind.u64.wrap x.kd = x.kd % 18446744073709551616 := IntKind.wrap_u64 x.kd
        have hf : (five x.kd : Int) = x.kd % 18446744073709551616 % 5 := by unfold five; omega
        have ha0 : 0 ≤ x.kd % 18446744073709551616 := by omega
        have ha1 : x.kd % 18446744073709551616 < 18446744073709551616 := by omega
        generalize x.kd % 18446744073709551616 = a5 at hwr hf ha0 ha1
        have hm5 : 0 ≤ a5 % 5 ∧ a5 % 5 < 5 := by omega
        obtain ⟨m, hm⟩ : ∃ m, a5 % 5 = m := ⟨_, rfl⟩
        rw [hm] at hf hm5
        have hmt : a5.tmod 5 = m := by rw [Int.tmod_eq_emod_of_nonneg ha0]; exact hm
        have hmu : IntKind.u64.wrap m = m := by rw [IntKind.wrap_u64]; omega
        have hmi : IntKind.i64.wrap m = m := IntWalk.i64_in _ (by omega)
        by_cases h1 : m = 1
        · subst h1
          clear hw hf hm5
          simp only [Nat.zero_mul, Nat.add_zero] at q0
          go_wp2_with (first
            | (go_at_call 20; go_must (refine (Done_none p v4 _ HR.out).mono ?_; rintro y w5 ⟨rfl, rfl⟩))
            | (go_at_call 22; go_must (refine (Left_any p 0 v4 [] _ HR.out).mono ?_; rintro y w5 ⟨rfl, rfl⟩))
            | (go_at_call 23; go_must (refine (sure_any _ HSc.out).mono ?_; rintro y w6 ⟨rfl, hb6⟩; have HB6 := Lib.hid (HBw.out.trans (hb6.mono HBw.out.size)); clear hb6)))
          go_ret
          exact ⟨rfl, HB6.out⟩
        · have hw2 := hw (by omega)
          have hI : (rInt (L, 0)).1 = (L, 3) := by rw [← hw2]; unfold asR; rw [if_neg (by omega), if_pos rfl]
          have HI := Lib.hid hI
          have T5 := Lib.hid (T2.out.below HBc.out)
          have hne : (m == 1) = false := by rw [beq_eq_false_iff_ne]; exact h1
          have hne' : (m != 1) = true := by simp [h1]
          have HNe := Lib.hid HNL.out.symm
          clear hw hw2 hf hm5 hI
          simp only [Nat.zero_mul, Nat.add_zero] at q0
          go_upto_region 28 with (first
            | (go_at_call 20; go_must (refine (Done_none p v4 _ HR.out).mono ?_; rintro y w5 ⟨rfl, rfl⟩))
            | (go_at_call 22; go_must (refine (Left_any p 0 v4 [] _ HR.out).mono ?_; rintro y w5 ⟨rfl, rfl⟩)))
          clear HR
          go_wp2_with (first
            | (go_at_call 20; go_must (refine (Done_err p7 3 v8 L _ H8.out (by decide)).mono ?_; rintro y w9 ⟨rfl, rfl⟩))
            | (go_at_call 22; go_must (refine (Left_any p7 3 v8 L _ H10.out).mono ?_; rw [HNe.out]; rintro y w11 ⟨rfl, rfl⟩))
            | (go_at_call 13; go_must (refine (Read_any A2 N2 c2 L _ _ T5.out (by have := HLL.out; omega)).mono ?_; rintro y w7 ⟨p7, v7, rfl, hp7, h7, hb7⟩; have H7 := Lib.hid h7; have HB7 := Lib.hid (HBw.out.trans (hb7.mono HBw.out.size)); have HS7 := Lib.hid (HSc.out.below (Nat.le_trans hG HBw.out.size) hb7); clear h7 hb7))
            | (go_at_call 15; go_must (refine (Int_any p7 (L, 0) v7 _ HS7.out H7.out).mono ?_; rw [HI.out]; rintro y w8 ⟨v8, rfl, h8, hg8⟩; have H8 := Lib.hid h8; have HB8 := Lib.hid (HB7.out.grown hg8 HB7.out.size (fun k hk => by injection hk with hk; have := HBw.out.size; omega)); clear h8 hg8))
            | (go_at_call 19; go_must (refine (num_some 3 _ (HS.out.below hG HB8.out)).mono ?_; rintro y w10 ⟨rfl, hb10⟩; have H10 := Lib.hid (H8.out.below hb10 H8.out.lt); have HB10 := Lib.hid (HB8.out.trans (hb10.mono HB8.out.size)); clear hb10))
            | (go_at_call 23; go_must (refine (sure_any _ (HS.out.below hG HB10.out)).mono ?_; rintro y w6 ⟨rfl, hb6⟩; have HB6 := Lib.hid (HB10.out.trans (hb6.mono HB10.out.size)); clear hb6)))
          go_ret
          exact ⟨rfl, HB6.out⟩

end Go.Proofs.YteblpfnmcbehmaaDoor.pk
