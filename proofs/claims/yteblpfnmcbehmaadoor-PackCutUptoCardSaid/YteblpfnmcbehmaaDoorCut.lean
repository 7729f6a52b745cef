/-
  The law PackCut's own walk: a begin of what is laid, but not all of it, is not taken off as so many things.
-/
import Derived.Test.YteblpfnmcbehmaaDoorThings
namespace Go.Proofs.YteblpfnmcbehmaaDoor.pk
open Go Go.RowKit
set_option maxRecDepth 100000

set_option maxHeartbeats 4000000 in
theorem cut_true (vl : Value) (l : List Th) (ask : Int) (w : World) (hs : Std w) (h : Ths w w.heap.size vl l) (hbig : 5000 + weight l ≤ 140737488355328) :
    Calls Tryd.prog 5 #[vl, .int .i64 ask] w fun x w' => x = .returned (.bool true) ∧ Below w.heap.size w w' := by
  have hG := hs.size
  have HS := Lib.hid hs
  have H := Lib.hid h
  obtain ⟨A, c, rfl, hc1, hc2, hok, hel⟩ := h
  have HOK := Lib.hid hok
  have HEL := Lib.hid hel
  obtain ⟨N, hN⟩ : ∃ N, N = min l.length 40 := ⟨_, rfl⟩
  have hNi : min (l.length : Int) 40 = (N : Int) := by omega
  have hN1 : N ≤ l.length := by omega
  have hN2 : N ≤ 40 := by omega
  have i2 : (N : Int) ≤ (l.length : Int) := by omega
  have i3 : (l.length : Int) ≤ (c : Int) := by omega
  clear hs hok hel hN
  go_enter Tryd.func5, Tryd.ntmps5
  go_wp2_with (go_at_call 8; refine (New_any _).mono ?_; rintro x w1 ⟨rfl, h1, hb1⟩; have H1 := Lib.hid h1; have HB1 := Lib.hid hb1; clear h1 hb1)
  have hzw1 := HB1.out.size
  go_loopw [5, 7] (fun pp ii wr => ∃ j : Nat, j ≤ N ∧ pp = .pointer (some ⟨w.heap.size, 0, none⟩) ∧ ii = .int .i64 (j : Int) ∧ ∃ v, WR wr w.heap.size w.heap.size v (flat (l.take j)) ∧ Below w.heap.size w wr) (fun _ ii _ => N - (intOf ii).toNat)
  case atStart => exact ⟨0, by omega, rfl, rfl, _, by simpa [flat] using H1.out, HB1.out⟩
  case round =>
    obtain ⟨j, hj, rfl, rfl, v, hw, hb⟩ := hrel
    have HW := Lib.hid hw
    have HB := Lib.hid hb
    clear hw hb
    by_cases hlt : j < N
    · have hjl : j < l.length := by omega
      obtain ⟨b, off, A', c', rfl, hbB, q0, q1, q2, hsl⟩ := (H.out.below HB.out).at_ j hjl
      have hx := HOK.out l[j] (List.getElem_mem _)
      have hfl := flat_next l HOK.out j hjl
      have htk : flat (l.take (j + 1)) = flat (l.take j) ++ layB l[j].kd l[j].n l[j].t := by rw [List.take_succ_eq_append_getElem hjl, flat_snoc]
      have HTK := Lib.hid htk
      have HSL := Lib.hid hsl
      have HX := Lib.hid hx
      have HFL := Lib.hid hfl
      have i1 : (j : Int) < (N : Int) := by omega
      generalize l[j] = x at q0 q1 q2 HTK HSL HX HFL
      clear hx hfl htk hsl
      have hzr := HB.out.size
      go_wp2_with (go_at_call 24; go_must (refine (lay_any w.heap.size w.heap.size v (flat (l.take j)) x.kd x.n A' _ c' x.t w.heap.size (Nat.le_refl _) _ (HS.out.below hG HB.out) hG HW.out HX.out.1 HX.out.2.1 HSL.out (by have := HFL.out; omega)).mono ?_; rw [← HTK.out]; rintro y w2 ⟨v2, rfl, h2, k2⟩; have H2 := Lib.hid h2; have HB2 := Lib.hid (HB.out.trans k2.below); clear h2 k2))
      go_roundw
      case rel => exact ⟨j + 1, by omega, rfl, by go_num, v2, H2.out, HB2.out⟩
      case measure => simp [intOf]; omega
    · obtain rfl : j = N := by omega
      clear hlt hj
      obtain ⟨L, hL⟩ : ∃ L, L = flat (l.take j) := ⟨_, rfl⟩
      have hLl : L.length ≤ 140737488352000 := by rw [hL]; have := flat_take l HOK.out j; omega
      rw [← hL] at HW
      have HWd := Lib.hid (Writer_Done _ _ _ _ _ HW.out (by omega))
      have HLd := Lib.hid hL
      have hzr := HB.out.size
      by_cases hj0 : j = 0
      · obtain rfl : L = [] := by rw [hL, hj0]; simp [flat]
        have hjz : ((j : Int) == 0) = true := by simp; omega
        clear hL hj0
        go_wp2_with (first
          | (go_at_call 18; go_must (refine HWd.out.mono ?_; rintro y w2 ⟨u, rfl, hO2, hb2⟩; obtain ⟨A2, c2, hu2, hx2⟩ := Sl.of_own hO2 w2.heap.size (fun g hg => (hO2.lt g hg).2); have hu3 : u = .slice A2 0 c2 := hu2; subst hu3; have HB2 := Lib.hid (HB.out.trans (hb2.mono HB.out.size)); have hz2 := HB2.out.size; clear hO2 hb2 hx2 hu2))
          | (go_at_call 23; go_must (refine (sure_any _ (HS.out.below hG HB2.out)).mono ?_; rintro y w3 ⟨rfl, hb3⟩; have HB3 := Lib.hid (HB2.out.trans (hb3.mono HB2.out.size)); clear hb3)))
        go_ret
        exact ⟨rfl, HB3.out⟩
      · have hLne : L ≠ [] := by
          intro e
          rw [hL] at e
          have := flat_nil e
          have h2 : (l.take j).length = j := by rw [List.length_take]; omega
          rw [this] at h2
          simp at h2
          omega
        obtain ⟨N2, hN2'⟩ : ∃ N2, N2 = L.length := ⟨_, rfl⟩
        have hLp : 0 < N2 := by rw [hN2']; exact List.length_pos_iff.2 hLne
        have hNz : ((N2 : Int) == 0) = false := by simp; omega
        have hwr : IntKind.u64.wrap ask = ask % 18446744073709551616 := IntKind.wrap_u64 ask
        have ha0 : 0 ≤ ask % 18446744073709551616 := by omega
        have ha1 : ask % 18446744073709551616 < 18446744073709551616 := by omega
        generalize ask % 18446744073709551616 = a at hwr ha0 ha1
        have hm0 : 0 ≤ a % (N2 : Int) := Int.emod_nonneg _ (by omega)
        have hm1 : a % (N2 : Int) < (N2 : Int) := Int.emod_lt_of_pos _ (by omega)
        have hmt : a.tmod (N2 : Int) = a % (N2 : Int) := Int.tmod_eq_emod_of_nonneg ha0
        obtain ⟨M, hM⟩ : ∃ M : Nat, a % (N2 : Int) = (M : Int) := ⟨(a % (N2 : Int)).toNat, by omega⟩
        rw [hM] at hm0 hm1 hmt
        have hMN : M ≤ N2 := by omega
        have hwu : IntKind.u64.wrap (M : Int) = (M : Int) := by rw [IntKind.wrap_u64]; omega
        have hwi : IntKind.i64.wrap (M : Int) = (M : Int) := IntWalk.i64_in _ (by omega)
        have hwn : IntKind.u64.wrap (N2 : Int) = (N2 : Int) := by rw [IntKind.wrap_u64]; omega
        have HN := Lib.hid hN2'
        have HNL := Lib.hid hLne
        have hNl : N2 ≤ 140737488352000 := by omega
        clear hL hj0 hLne hN2' hLl
        go_wp2_with (first
          | (go_at_call 18; go_must (refine HWd.out.mono ?_; rintro y w2 ⟨u, rfl, hO2, hb2⟩; obtain ⟨A2, c2, hu2, hx2⟩ := Sl.of_own hO2 w2.heap.size (fun g hg => (hO2.lt g hg).2); rw [← HN.out] at hu2; subst hu2; have T2 := Lib.hid (show Sl w2 w2.heap.size (.slice A2 N2 c2) L from ⟨A2, c2, by rw [HN.out], hx2⟩); have HB2 := Lib.hid (HB.out.trans (hb2.mono HB.out.size)); have hz2 := HB2.out.size; have ic1 : (N2 : Int) ≤ (c2 : Int) := (by have := T2.out.len; omega); have ic2 : (c2 : Int) ≤ 9223372036854775807 := (by have := T2.out.len; omega); clear hO2 hb2 hx2))
          | (go_at_call 13; go_must (refine (Read_any A2 M c2 (L.take M) _ _ (T2.out.front (by have := HN.out; omega)) (by rw [List.length_take]; omega)).mono ?_; rintro y w3 ⟨p, v3, rfl, hp3, h3, hb3⟩; have H3 := Lib.hid h3; have HB3 := Lib.hid (HB2.out.trans (hb3.mono HB2.out.size)); have hpw : w.heap.size ≤ p := Nat.le_trans hz2 hp3; clear h3 hb3)))
        have hz3 := HB3.out.size
        have hml : (L.take M).length ≤ 140737488352000 := by rw [List.length_take]; omega
        have hMlt : M < L.length := by have := HN.out; omega
        have HML := Lib.hid hml
        have HMLT := Lib.hid hMlt
        clear hwr ha0 ha1 hm0 hm1 hmt hM hMN hwu hwi hwn hNl hml hMlt hNz hLp
        go_loopw [10] (fun ii wr => ∃ i : Nat, i ≤ j ∧ ii = .int .i64 (i : Int) ∧ ∃ v, RD wr p v (runR (l.take i) (L.take M, 0)).1 (runR (l.take i) (L.take M, 0)).2 ∧ Below w.heap.size w wr) (fun ii _ => j - (intOf ii).toNat)
        case atStart => exact ⟨0, by omega, rfl, v3, H3.out, HB3.out⟩
        case round =>
          obtain ⟨i, hi, rfl, v4, hr, hbr⟩ := hrel
          have HBr := Lib.hid hbr
          obtain ⟨s, hsd⟩ : ∃ s, s = runR (l.take i) (L.take M, 0) := ⟨_, rfl⟩
          rw [← hsd] at hr
          have HRD := Lib.hid hr
          have HSr := Lib.hid (HS.out.below hG hbr)
          have hzr2 := hbr.size
          have hsl2 : s.1.length ≤ 140737488355328 := by
            have h1 := runR_left (l.take i) (L.take M, 0)
            rw [← hsd] at h1
            have h2 := HML.out
            simp only at h1
            omega
          have HSD := Lib.hid hsd
          clear hr hsd
          by_cases hlt2 : i < j
          · have hil : i < l.length := by omega
            obtain ⟨b, off, A', c', rfl, hbB, q0, q1, q2, hsl⟩ := (H.out.below hbr).at_ i hil
            have hxl : (l[i].t.length : Int) ≤ 9223372036854775807 := by have := hsl.len; omega
            have hnx : runR (l.take (i + 1)) (L.take M, 0) = asR (five l[i].kd) l[i].t.length s := by rw [List.take_succ_eq_append_getElem hil, runR_snoc, HSD.out]
            have HNX := Lib.hid hnx
            generalize l[i] = x at q0 q1 q2 HNX hxl
            have i1 : (i : Int) < (j : Int) := by omega
            clear hsl hnx hbr
            have hq : five x.kd = 0 ∨ five x.kd = 1 ∨ five x.kd = 2 ∨ five x.kd = 3 ∨ five x.kd = 4 := by have := five_lt x.kd; omega
            have hwr : IntKind.u64.wrap x.kd = x.kd % 18446744073709551616 := IntKind.wrap_u64 x.kd
            have hf : (five x.kd : Int) = x.kd % 18446744073709551616 % 5 := by unfold five; omega
            have ha0 : 0 ≤ x.kd % 18446744073709551616 := by omega
            have ha1 : x.kd % 18446744073709551616 < 18446744073709551616 := by omega
            generalize x.kd % 18446744073709551616 = a5 at hwr hf ha0 ha1
            rcases hq with hq | hq | hq | hq | hq
            · have e2 : a5 % 5 = 0 := by omega
              have HR : Hid (asR (five x.kd) x.t.length s = (rUint 18446744073709551615 s).1) := by unfold asR; rw [if_pos hq]; exact rfl
              clear hq hf
              go_wp2_with (go_at_call 14; go_must (refine (Uint_any p 18446744073709551615 s _ _ HSr.out HRD.out).mono ?_; rintro y w6 ⟨v6, rfl, h6, hg6⟩; have H6 := Lib.hid h6; have HB6 := Lib.hid (HBr.out.grown hg6 hzr2 (fun k hk => by injection hk with hk; omega)); clear h6 hg6))
              go_roundw
              case rel => exact ⟨i + 1, by omega, by go_num, v6, by rw [HNX.out, HR.out]; exact H6.out, HB6.out⟩
              case measure => simp [intOf]; omega
            · have e2 : a5 % 5 = 1 := by omega
              have HR : Hid (asR (five x.kd) x.t.length s = (rInt s).1) := by unfold asR; rw [if_neg (by omega)]; rw [if_pos hq]; exact rfl
              clear hq hf
              go_wp2_with (go_at_call 15; go_must (refine (Int_any p s _ _ HSr.out HRD.out).mono ?_; rintro y w6 ⟨v6, rfl, h6, hg6⟩; have H6 := Lib.hid h6; have HB6 := Lib.hid (HBr.out.grown hg6 hzr2 (fun k hk => by injection hk with hk; omega)); clear h6 hg6))
              go_roundw
              case rel => exact ⟨i + 1, by omega, by go_num, v6, by rw [HNX.out, HR.out]; exact H6.out, HB6.out⟩
              case measure => simp [intOf]; omega
            · have e2 : a5 % 5 = 2 := by omega
              have HR : Hid (asR (five x.kd) x.t.length s = (rBool s).1) := by unfold asR; rw [if_neg (by omega)]; rw [if_neg (by omega)]; rw [if_pos hq]; exact rfl
              clear hq hf
              go_wp2_with (go_at_call 26; go_must (refine (Bool_any p s _ _ HRD.out).mono ?_; rintro y w6 ⟨v6, rfl, h6, hg6⟩; have H6 := Lib.hid h6; have HB6 := Lib.hid (HBr.out.grown hg6 hzr2 (fun k hk => by injection hk with hk; omega)); clear h6 hg6))
              go_roundw
              case rel => exact ⟨i + 1, by omega, by go_num, v6, by rw [HNX.out, HR.out]; exact H6.out, HB6.out⟩
              case measure => simp [intOf]; omega
            · have e2 : a5 % 5 = 3 := by omega
              have HR : Hid (asR (five x.kd) x.t.length s = (rBytes 116 x.t.length s).1) := by unfold asR; rw [if_neg (by omega)]; rw [if_neg (by omega)]; rw [if_neg (by omega)]; rw [if_pos hq]; exact rfl
              clear hq hf
              go_wp2_with (go_at_call 27; go_must (refine (Text_any p (x.t.length : Int) s _ _ HSr.out hxl HRD.out).mono ?_; rintro y w6 ⟨v6, rfl, h6, hg6⟩; have H6 := Lib.hid h6; have HB6 := Lib.hid (HBr.out.grown hg6 hzr2 (fun k hk => by injection hk with hk; omega)); clear h6 hg6))
              go_roundw
              case rel => exact ⟨i + 1, by omega, by go_num, v6, by rw [HNX.out, HR.out]; exact H6.out, HB6.out⟩
              case measure => simp [intOf]; omega
            · have e2 : a5 % 5 = 4 := by omega
              have HR : Hid (asR (five x.kd) x.t.length s = (rBytes 98 x.t.length s).1) := by unfold asR; rw [if_neg (by omega)]; rw [if_neg (by omega)]; rw [if_neg (by omega)]; rw [if_neg (by omega)]; exact rfl
              clear hq hf
              go_wp2_with (go_at_call 28; go_must (refine (Bytes_any p (x.t.length : Int) s _ _ HSr.out hxl HRD.out hsl2).mono ?_; rintro y w6 ⟨v6, u6, rfl, hu6, h6, hg6⟩; have H6 := Lib.hid h6; have HB6 := Lib.hid (HBr.out.grown hg6 hzr2 (fun k hk => by injection hk with hk; omega)); clear h6 hg6 hu6))
              go_roundw
              case rel => exact ⟨i + 1, by omega, by go_num, v6, by rw [HNX.out, HR.out]; exact H6.out, HB6.out⟩
              case measure => simp [intOf]; omega
          · obtain rfl : i = j := by omega
            have hcut := runR_cut (l.take i) (fun x hx => HOK.out x (List.mem_of_mem_take hx)) M (by rw [← HLd.out]; exact HMLT.out)
            rw [← HLd.out, ← HSD.out] at hcut
            have hdn : dn s = 12 := by unfold dn; rw [hcut]; rfl
            have HDN := Lib.hid hdn
            clear hcut hdn hbr
            go_wp2_with (first
              | (go_at_call 20; go_must (refine (Done_any p s _ _ HRD.out).mono ?_; rw [HDN.out]; rintro y w5 ⟨rfl, rfl⟩))
              | (go_at_call 19; go_must (refine (num_any 12 _ HSr.out).mono ?_; rintro y w5 ⟨rfl, hb5⟩; have HB5 := Lib.hid (HBr.out.trans (hb5.mono hzr2)); clear hb5))
              | (go_at_call 23; go_must (refine (sure_any _ (HS.out.below hG HB5.out)).mono ?_; rintro y w6 ⟨rfl, hb6⟩; have HB6 := Lib.hid (HB5.out.trans (hb6.mono HB5.out.size)); clear hb6)))
            go_ret
            exact ⟨rfl, HB6.out⟩

end Go.Proofs.YteblpfnmcbehmaaDoor.pk
