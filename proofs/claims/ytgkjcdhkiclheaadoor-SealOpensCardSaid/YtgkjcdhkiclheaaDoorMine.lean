/-
  What the program's own functions of sums promise: walked.
-/
import Derived.Test.YtgkjcdhkiclheaaDoorRefSum
import Derived.Test.YtgkjcdhkiclheaaDoorCon
namespace Go.Proofs.YtgkjcdhkiclheaaDoor.pk
open Go Go.RowKit
set_option maxRecDepth 100000

theorem sh_even (r : Nat) (h : ¬ r % 2 = 1) : sh r = r / 2 := by unfold sh; rw [if_neg h]
theorem sh_odd (r : Nat) (h : r % 2 = 1) : sh r = r / 2 ^^^ 2197175160 := by unfold sh; rw [if_pos h]
theorem rep_snoc (k a : Nat) : rep (k + 1) a = sh (rep k a) := by rw [rep_add k 1]; rfl

theorem More_any (s : Nat) (hs : s < 4294967296) (A : Option Addr) (n c : Nat) (bs : List UInt8) (w : World) (B : Nat) (h : Sl w B (.slice A n c) bs) :
    Calls Tryd.prog 17 #[.int .u32 (s : Int), .slice A n c] w fun x w' => x = .returned (.int .u32 (more s bs : Int)) ∧ w' = w := by
  obtain ⟨hn, hc1, hc2⟩ := h.len
  have H := Lib.hid h
  have hx0 : bits .xor .u32 IntKind.u32.max (s : Int) = ((s ^^^ 4294967295 : Nat) : Int) := by rw [Nat.xor_comm]; exact u32_xor_nat 4294967295 s (by omega) hs
  have hs0 : s ^^^ 4294967295 < 4294967296 := Nat.xor_lt_two_pow (n := 32) (by omega) (by omega)
  have HM : Hid (more s bs = crc (s ^^^ 4294967295) bs ^^^ 4294967295) := Lib.hid (by unfold more; rw [Nat.xor_comm 4294967295, Nat.xor_comm 4294967295 s])
  generalize s ^^^ 4294967295 = s0 at hx0 hs0 HM
  go_enter Tryd.func17, Tryd.ntmps17
  go_wp2_with fail
  go_loopw [5, 13] (fun rr ii wr => ∃ j : Nat, j ≤ n ∧ rr = .int .u32 (crc s0 (bs.take j) : Int) ∧ ii = .int .i64 (j : Int) ∧ wr = w) (fun _ ii _ => n - (intOf ii).toNat)
  case atStart => exact ⟨0, by omega, rfl, rfl, rfl⟩
  case round =>
    obtain ⟨j, hj, rfl, rfl, rfl⟩ := hrel
    by_cases hlt : j < n
    · obtain ⟨A', c', hv, _, _, h3⟩ := H.out
      injection hv with e1 e2 e3
      subst e1; subst e3
      have hjl : j < bs.length := by omega
      rcases h3 with h3 | ⟨b, off, rfl, hbB, hcell⟩
      · rw [h3] at hjl; simp at hjl
      have hq := hcell j hjl
      have hgd : bs.getD j 0 = bs[j] := by simp [List.getD, List.getElem?_eq_getElem hjl]
      rw [hgd] at hq
      have htk : crc s0 (bs.take (j + 1)) = crcB (crc s0 (bs.take j)) bs[j].toNat := by rw [List.take_succ_eq_append_getElem hjl, crc_append]; rfl
      have HTK := Lib.hid htk
      have hr := crc_lt (bs.take j) hs0
      have hx := bs[j].toNat_lt
      generalize bs[j].toNat = x at hq HTK hx
      generalize crc s0 (bs.take j) = r at HTK hr
      have hx8 : x < 256 := hx
      have i1 : (j : Int) < (n : Int) := by omega
      have hw1 : IntKind.u32.wrap (x : Int) = (x : Int) := by rw [IntKind.wrap_u32']; omega
      have hx1 : bits .xor .u32 (r : Int) (x : Int) = ((r ^^^ x : Nat) : Int) := u32_xor_nat r x hr (by omega)
      have hs1 : r ^^^ x < 4294967296 := Nat.xor_lt_two_pow (n := 32) (by omega) (by omega)
      have HCB : Hid (crc s0 (bs.take (j + 1)) = rep 8 (r ^^^ x)) := Lib.hid (by rw [HTK.out]; rfl)
      clear hcell htk hgd HTK
      generalize r ^^^ x = y at hx1 hs1 HCB
      go_wp2_with fail
      go_loopw [5, 21] (fun rr kk wq => ∃ k : Nat, k ≤ 8 ∧ rr = .int .u32 (rep k y : Int) ∧ kk = .int .i64 (k : Int) ∧ wq = wr) (fun _ kk _ => 8 - (intOf kk).toNat)
      case atStart => exact ⟨0, by omega, rfl, rfl, rfl⟩
      case round =>
        obtain ⟨k, hk, rfl, rfl, rfl⟩ := hrel
        by_cases hk8 : k < 8
        · have i2 : (k : Int) < 8 := by omega
          have HS := Lib.hid (rep_snoc k y)
          have hRl := rep_lt k hs1
          generalize rep k y = R at HS hRl
          have ha1 : bits .and .u32 (R : Int) 1 = ((R % 2 : Nat) : Int) := by
            have := u32_and_nat R 1 hRl (by omega)
            rw [nat_mask1] at this
            exact this
          obtain ⟨h2, hh2⟩ : ∃ h2 : Nat, h2 = R / 2 := ⟨_, rfl⟩
          have hr3 : (R : Int) / 2 = (h2 : Int) := by rw [hh2]; rfl
          have hr4 : IntKind.u32.wrap (h2 : Int) = (h2 : Int) := by rw [IntKind.wrap_u32']; omega
          have hr5 : bits .xor .u32 (h2 : Int) 2197175160 = ((h2 ^^^ 2197175160 : Nat) : Int) := u32_xor_nat h2 2197175160 (by omega) (by omega)
          by_cases hpar : R % 2 = 1
          · have HV : Hid (rep (k + 1) y = h2 ^^^ 2197175160) := Lib.hid (by rw [HS.out, sh_odd R hpar, hh2])
            rw [hpar] at ha1
            clear hh2 hpar
            go_wp2_with fail
            go_roundw
            case rel => exact ⟨k + 1, by omega, by rw [HV.out], by go_num, by simp⟩
            case measure => simp [intOf]; omega
          · have HV : Hid (rep (k + 1) y = h2) := Lib.hid (by rw [HS.out, sh_even R hpar, hh2])
            rw [show R % 2 = 0 from by omega] at ha1
            clear hh2 hpar
            go_wp2_with fail
            go_roundw
            case rel => exact ⟨k + 1, by omega, by rw [HV.out], by go_num, by simp⟩
            case measure => simp [intOf]; omega
        · obtain rfl : k = 8 := by omega
          rw [← HCB.out]
          go_wp2_with fail
          go_roundw
          case rel => exact ⟨j + 1, by omega, rfl, by go_num, by simp⟩
          case measure => simp [intOf]; omega
    · obtain rfl : j = n := by omega
      have htk : bs.take j = bs := by rw [hn]; exact List.take_length
      rw [htk]
      have hl := crc_lt bs hs0
      have hxe : bits .xor .u32 IntKind.u32.max (crc s0 bs : Int) = ((crc s0 bs ^^^ 4294967295 : Nat) : Int) := by rw [Nat.xor_comm]; exact u32_xor_nat 4294967295 _ (by omega) hl
      have HMM := Lib.hid HM.out
      rw [← HM.out] at hxe
      generalize crc s0 bs = C at hxe
      go_wp2_with fail
      go_ret
      exact ⟨rfl, rfl⟩

theorem Sum_any (A : Option Addr) (n c : Nat) (bs : List UInt8) (w : World) (B : Nat) (h : Sl w B (.slice A n c) bs) :
    Calls Tryd.prog 12 #[.slice A n c] w fun x w' => x = .returned (.int .u32 (sum bs : Int)) ∧ w' = w := by
  have c1 := Lib.hid (More_any 0 (by omega) A n c bs w B h)
  rw [more_zero] at c1
  clear h
  go_enter Tryd.func12, Tryd.ntmps12
  go_wp2_with (go_at_call 17; go_must (refine c1.out.mono ?_; rintro y w1 ⟨rfl, rfl⟩))
  go_ret
  exact ⟨rfl, rfl⟩

end Go.Proofs.YtgkjcdhkiclheaaDoor.pk
