/-
  Texts of the proof, joined: RefSeal, Sm1.
-/
import Derived.Test.YtfblgkcipnkhaaaGreatDoorRefSum
import Derived.Test.YtfblgkcipnkhaaaGreatDoorJc
import Derived.Test.YtfblgkcipnkhaaaGreatDoorJb

/-
  What the document seals: the plain functions.
-/
namespace Go.Proofs.YtfblgkcipnkhaaaGreatDoor.pk
open Go Go.RowKit
set_option maxRecDepth 100000

theorem RefTail_any (m : Nat) (hm : m < 4294967296) (w : World) :
    Calls Tryz.prog 53 #[.int .u32 (m : Int)] w fun x w' => ∃ a, x = .returned (.slice (some a) 4 4) ∧ Sl w' w'.heap.size (.slice (some a) 4 4) (tail4 m) ∧ Below w.heap.size w w' := by
  obtain ⟨c0, h0⟩ : ∃ c0 : Nat, c0 = m % 256 := ⟨_, rfl⟩
  obtain ⟨d1, g1⟩ : ∃ d1 : Nat, d1 = m / 256 := ⟨_, rfl⟩
  obtain ⟨c1, h1⟩ : ∃ c1 : Nat, c1 = d1 % 256 := ⟨_, rfl⟩
  obtain ⟨d2, g2⟩ : ∃ d2 : Nat, d2 = m / 65536 := ⟨_, rfl⟩
  obtain ⟨c2, h2⟩ : ∃ c2 : Nat, c2 = d2 % 256 := ⟨_, rfl⟩
  obtain ⟨c3, g3⟩ : ∃ c3 : Nat, c3 = m / 16777216 := ⟨_, rfl⟩
  have e0 : (m : Int).tmod 256 = (c0 : Int) := by rw [Int.tmod_eq_emod_of_nonneg (by omega)]; omega
  have e1 : (m : Int).tdiv 256 = (d1 : Int) := by rw [Int.tdiv_eq_ediv_of_nonneg (by omega)]; omega
  have e2 : (d1 : Int).tmod 256 = (c1 : Int) := by rw [Int.tmod_eq_emod_of_nonneg (by omega)]; omega
  have e3 : (m : Int).tdiv 65536 = (d2 : Int) := by rw [Int.tdiv_eq_ediv_of_nonneg (by omega)]; omega
  have e4 : (d2 : Int).tmod 256 = (c2 : Int) := by rw [Int.tmod_eq_emod_of_nonneg (by omega)]; omega
  have e5 : (m : Int).tdiv 16777216 = (c3 : Int) := by rw [Int.tdiv_eq_ediv_of_nonneg (by omega)]; omega
  have w0 : IntKind.u32.wrap (c0 : Int) = (c0 : Int) := by rw [IntKind.wrap_u32']; omega
  have w1 : IntKind.u32.wrap (d1 : Int) = (d1 : Int) := by rw [IntKind.wrap_u32']; omega
  have w2 : IntKind.u32.wrap (c1 : Int) = (c1 : Int) := by rw [IntKind.wrap_u32']; omega
  have w3 : IntKind.u32.wrap (d2 : Int) = (d2 : Int) := by rw [IntKind.wrap_u32']; omega
  have w4 : IntKind.u32.wrap (c2 : Int) = (c2 : Int) := by rw [IntKind.wrap_u32']; omega
  have w5 : IntKind.u32.wrap (c3 : Int) = (c3 : Int) := by rw [IntKind.wrap_u32']; omega
  have b0 : IntKind.u8.wrap (c0 : Int) = (c0 : Int) := by rw [IntKind.wrap_u8']; omega
  have b1 : IntKind.u8.wrap (c1 : Int) = (c1 : Int) := by rw [IntKind.wrap_u8']; omega
  have b2 : IntKind.u8.wrap (c2 : Int) = (c2 : Int) := by rw [IntKind.wrap_u8']; omega
  have b3 : IntKind.u8.wrap (c3 : Int) = (c3 : Int) := by rw [IntKind.wrap_u8']; omega
  have HT : Hid ((tail4 m).map (fun b => Value.int .u8 (b.toNat : Int)) = [.int .u8 (c0 : Int), .int .u8 (c1 : Int), .int .u8 (c2 : Int), .int .u8 (c3 : Int)]) := Lib.hid (by
    unfold tail4
    simp only [List.map_cons, List.map_nil, toNat_ofNat]
    rw [h0, h1, g1, h2, g2, g3, show m / 16777216 % 256 = m / 16777216 from by omega])
  clear h0 g1 h1 g2 h2 g3 hm
  go_enter Tryz.func53, Tryz.ntmps53
  go_wp2
  go_ret
  have hl := Sl.lit w 5 (tail4 m) (w.heap.size + 1) (by omega) (by rw [tail4_len]; omega)
  rw [HT.out] at hl
  refine ⟨⟨w.heap.size, 0, none⟩, rfl, ?_, (Below.refl _ _).alloc (Nat.le_refl _) _⟩
  simpa [tail4_len] using hl

set_option maxHeartbeats 1000000 in
theorem RefSeal_any (kind : UInt8) (A : Option Addr) (n c : Nat) (b : List UInt8) (w : World) (B : Nat) (hB : B ≤ w.heap.size) (h : Sl w B (.slice A n c) b) :
    Calls Tryz.prog 19 #[.int .u8 (kind.toNat : Int), .slice A n c] w fun x w' => ∃ v, x = .returned (.tuple #[v, .int .i64 (sealE kind b : Int)]) ∧ Sl w' w'.heap.size v (sealB kind b) ∧ Below w.heap.size w w' := by
  obtain ⟨i0, hi, hz0, hz1, hz2⟩ := info_parts info_u8
  obtain ⟨hn, hc1, hc2⟩ := h.len
  have H := Lib.hid h
  have HN := Lib.hid hn
  clear h
  by_cases hk : kind = 0
  · have he : sealE kind b = 1 := by unfold sealE; rw [if_pos hk]
    have hs : sealB kind b = [] := by unfold sealB; rw [he]; rfl
    have hkI : (kind.toNat : Int) = 0 := by rw [hk]; rfl
    rw [he, hs, hkI]
    clear hk he hs hkI hn
    go_enter Tryz.func19, Tryz.ntmps19
    go_wp2
    go_ret2
    exact ⟨_, rfl, Sl.nil_ _ _, Below.refl _ _⟩
  · have hk0 : ¬ kind.toNat = 0 := fun e => hk (UInt8.toNat_inj.1 (by rw [e]; rfl))
    have hkI : ¬ (kind.toNat : Int) = 0 := by omega
    have hkB : ((kind.toNat : Int) == 0) = false := by rw [beq_eq_false_iff_ne]; exact hkI
    by_cases hl : 1048576 < b.length
    · have he : sealE kind b = 2 := by unfold sealE; rw [if_neg hk, if_pos hl]
      have hs : sealB kind b = [] := by unfold sealB; rw [he]; rfl
      have i1 : (1048576 : Int) < (n : Int) := by omega
      rw [he, hs]
      generalize (kind.toNat : Int) = kI at hkI hkB
      clear hk he hs hn hk0 hl
      go_enter Tryz.func19, Tryz.ntmps19
      go_wp2
      go_ret2
      exact ⟨_, rfl, Sl.nil_ _ _, Below.refl _ _⟩
    · have he : sealE kind b = 0 := by unfold sealE; rw [if_neg hk, if_neg hl]
      have hs : sealB kind b = (kind :: b) ++ tail4 (sum (kind :: b)) := by unfold sealB; rw [if_pos he]
      have i1 : ¬ (1048576 : Int) < (n : Int) := by omega
      rw [he]
      obtain ⟨W0, hW0⟩ : ∃ W0, W0 = w.alloc (.cells #[.int .u8 (kind.toNat : Int)] 5) := ⟨_, rfl⟩
      have hb0 : Below w.heap.size w W0 := by rw [hW0]; exact (Below.refl _ _).alloc (Nat.le_refl _) _
      have hl0 : Sl W0 W0.heap.size (.slice (some ⟨w.heap.size, 0, none⟩) 1 1) [kind] := by rw [hW0]; exact Sl.lit w 5 [kind] _ (by simp) (by simp)
      have HB0 := Lib.hid hb0
      have HL0 := Lib.hid hl0
      have HNb := Lib.hid (show b.length ≤ 1048576 by omega)
      have HS4 := Lib.hid (sum_lt (kind :: b))
      clear hk he hn hk0 hl
      go_enter Tryz.func19, Tryz.ntmps19
      go_wp2_with (first
        | (at_builtin; refine wpList_append_sl rfl _ _ 22 rfl w.heap.size 5 i0 _ Tryz.underlying22 hi hz0 hz1 hz2 rfl _ _ _ rfl HO4.out w5.heap.size (some a5) 4 4 (tail4 (sum (kind :: b))) rfl T5.out (by rw [tail4_len]; have := HNb.out; omega) HB5.out.size ?_; intro v6 w6 hown6 hg6; have HO6 := Lib.hid hown6; have HB6 := Lib.hid (HB5.out.grown hg6 HB5.out.size (fun k hk => (HO4.out.lt k hk).1)); clear hown6 hg6)
        | (go_at_call 53; go_must (refine (RefTail_any _ HS4.out _).mono ?_; rintro y w5 ⟨a5, rfl, h5, hb5⟩; have T5 := Lib.hid h5; have HO4 := Lib.hid (own_below HO3.out hb5); have HB5 := Lib.hid (HB4.out.trans (hb5.mono HB4.out.size)); clear h5 hb5))
        | (go_at_call 54; go_must (refine (RefSum_any A2 _ c2 (kind :: b) _ _ (Nat.le_refl _) T2.out).mono ?_; rintro y w4 ⟨rfl, hb4⟩; have HO3 := Lib.hid (own_below HO2.out hb4); have HB4 := Lib.hid (HB2.out.trans (hb4.mono HB2.out.size)); clear hb4))
        | (at_builtin; refine wpList_append_sl rfl _ _ 22 rfl w.heap.size 5 i0 _ Tryz.underlying22 hi hz0 hz1 hz2 rfl _ _ _ rfl HO1.out B A n c b rfl (H.out.below (HB1.out.mono hB)) (by have := HNb.out; omega) HB1.out.size ?_; intro v2 w2 hown2 hg2; have HB2 := Lib.hid (HB1.out.grown hg2 HB1.out.size (fun k hk => (HO1.out.lt k hk).1)); have HO2' := Lib.hid (show w2.ownsRow w.heap.size 5 1 v2 (1 + b.length) (Lib.byteCells (kind :: b)) from hown2); obtain ⟨A2, c2, hv2, hsl2⟩ := own_sl HO2'.out (by simp; omega); subst hv2; have T2 := Lib.hid hsl2; have HO2 := Lib.hid HO2'.out; clear hown2 hg2 hsl2 HO2')
        | (at_builtin; refine wpList_append_sl rfl _ _ 22 rfl w.heap.size 5 i0 _ Tryz.underlying22 hi hz0 hz1 hz2 rfl (.slice none 0 0) 0 [] rfl (World.ownsRow_nil _ _ _ _) W0.heap.size (some ⟨w.heap.size, 0, none⟩) 1 1 [kind] rfl (by rw [← hW0]; exact HL0.out) (by simp) (by rw [← hW0]; exact HB0.out.size) ?_; rw [← hW0]; intro v1 w1 hown1 hg1; have HB1 := Lib.hid (HB0.out.grown hg1 HB0.out.size (fun k hk => by cases hk)); have HO1 := Lib.hid (show w1.ownsRow w.heap.size 5 1 v1 1 (Lib.byteCells [kind]) from hown1); clear hown1 hg1))
      go_ret2
      refine ⟨_, rfl, ?_, HB6.out⟩
      rw [hs]
      have ho : w6.ownsRow w.heap.size 5 1 v6 (1 + b.length + 4) (Lib.byteCells ((kind :: b) ++ tail4 (sum (kind :: b)))) := by
        have := HO6.out
        simpa [Lib.byteCells, tail4_len] using this
      obtain ⟨A7, c7, hv7, hsl7⟩ := own_sl ho (by simp [tail4_len]; omega)
      rw [hv7]
      exact hsl7

end Go.Proofs.YtfblgkcipnkhaaaGreatDoor.pk

/-
  What the program's own functions of sums promise: walked.
-/
namespace Go.Proofs.YtfblgkcipnkhaaaGreatDoor.pk
open Go Go.RowKit
set_option maxRecDepth 100000

theorem sh_even (r : Nat) (h : ¬ r % 2 = 1) : sh r = r / 2 := by unfold sh; rw [if_neg h]
theorem sh_odd (r : Nat) (h : r % 2 = 1) : sh r = r / 2 ^^^ 2197175160 := by unfold sh; rw [if_pos h]
theorem rep_snoc (k a : Nat) : rep (k + 1) a = sh (rep k a) := by rw [rep_add k 1]; rfl

theorem More_any (s : Nat) (hs : s < 4294967296) (A : Option Addr) (n c : Nat) (bs : List UInt8) (w : World) (B : Nat) (h : Sl w B (.slice A n c) bs) :
    Calls Tryz.prog 97 #[.int .u32 (s : Int), .slice A n c] w fun x w' => x = .returned (.int .u32 (more s bs : Int)) ∧ w' = w := by
  obtain ⟨hn, hc1, hc2⟩ := h.len
  have H := Lib.hid h
  have hx0 : bits .xor .u32 IntKind.u32.max (s : Int) = ((s ^^^ 4294967295 : Nat) : Int) := by rw [Nat.xor_comm]; exact u32_xor_nat 4294967295 s (by omega) hs
  have hs0 : s ^^^ 4294967295 < 4294967296 := Nat.xor_lt_two_pow (n := 32) (by omega) (by omega)
  have HM : Hid (more s bs = crc (s ^^^ 4294967295) bs ^^^ 4294967295) := Lib.hid (by unfold more; rw [Nat.xor_comm 4294967295, Nat.xor_comm 4294967295 s])
  generalize s ^^^ 4294967295 = s0 at hx0 hs0 HM
  go_enter Tryz.func97, Tryz.ntmps97
  go_wp2_with fail
  go_loopw [5, 13] (fun rr ii wr => ∃ j : Nat, j ≤ n ∧ rr = .int .u32 (crc s0 (bs.take j) : Int) ∧ ii = .int .i64 (j : Int) ∧ wr = w) (fun _ ii _ => n - (intOf ii).toNat)
  case atStart => exact ⟨0, by omega, rfl, rfl, rfl⟩
  case round =>
    obtain ⟨j, hj, rfl, rfl, rfl⟩ := hrel
    by_cases hlt : j < n
    · obtain ⟨A', c', hv, _, _, h3⟩ := H.out
      injection hv with e1 e2 e3
      subst e1; subst e3
      have hjl : j < bs.length := by omega
      rcases h3 with h3 | ⟨b, off, rfl, hbB, hcell⟩
      · rw [h3] at hjl; simp at hjl
      have hq := hcell j hjl
      have hgd : bs.getD j 0 = bs[j] := by simp [List.getD, List.getElem?_eq_getElem hjl]
      rw [hgd] at hq
      have htk : crc s0 (bs.take (j + 1)) = crcB (crc s0 (bs.take j)) bs[j].toNat := by rw [List.take_succ_eq_append_getElem hjl, crc_append]; rfl
      have HTK := Lib.hid htk
      have hr := crc_lt (bs.take j) hs0
      have hx := bs[j].toNat_lt
      generalize bs[j].toNat = x at hq HTK hx
      generalize crc s0 (bs.take j) = r at HTK hr
      have hx8 : x < 256 := hx
      have i1 : (j : Int) < (n : Int) := by omega
      have hw1 : IntKind.u32.wrap (x : Int) = (x : Int) := by rw [IntKind.wrap_u32']; omega
      have hx1 : bits .xor .u32 (r : Int) (x : Int) = ((r ^^^ x : Nat) : Int) := u32_xor_nat r x hr (by omega)
      have hs1 : r ^^^ x < 4294967296 := Nat.xor_lt_two_pow (n := 32) (by omega) (by omega)
      have HCB : Hid (crc s0 (bs.take (j + 1)) = rep 8 (r ^^^ x)) := Lib.hid (by rw [HTK.out]; rfl)
      clear hcell htk hgd HTK
      generalize r ^^^ x = y at hx1 hs1 HCB
      go_wp2_with fail
      go_loopw [5, 21] (fun rr kk wq => ∃ k : Nat, k ≤ 8 ∧ rr = .int .u32 (rep k y : Int) ∧ kk = .int .i64 (k : Int) ∧ wq = wr) (fun _ kk _ => 8 - (intOf kk).toNat)
      case atStart => exact ⟨0, by omega, rfl, rfl, rfl⟩
      case round =>
        obtain ⟨k, hk, rfl, rfl, rfl⟩ := hrel
        by_cases hk8 : k < 8
        · have i2 : (k : Int) < 8 := by omega
          have HS := Lib.hid (rep_snoc k y)
          have hRl := rep_lt k hs1
          generalize rep k y = R at HS hRl
          have ha1 : bits .and .u32 (R : Int) 1 = ((R % 2 : Nat) : Int) := by
            have := u32_and_nat R 1 hRl (by omega)
            rw [nat_mask1] at this
            exact this
          obtain ⟨h2, hh2⟩ : ∃ h2 : Nat, h2 = R / 2 := ⟨_, rfl⟩
          have hr3 : (R : Int) / 2 = (h2 : Int) := by rw [hh2]; rfl
          have hr4 : IntKind.u32.wrap (h2 : Int) = (h2 : Int) := by rw [IntKind.wrap_u32']; omega
          have hr5 : bits .xor .u32 (h2 : Int) 2197175160 = ((h2 ^^^ 2197175160 : Nat) : Int) := u32_xor_nat h2 2197175160 (by omega) (by omega)
          by_cases hpar : R % 2 = 1
          · have HV : Hid (rep (k + 1) y = h2 ^^^ 2197175160) := Lib.hid (by rw [HS.out, sh_odd R hpar, hh2])
            rw [hpar] at ha1
            clear hh2 hpar
            go_wp2_with fail
            go_roundw
            case rel => exact ⟨k + 1, by omega, by rw [HV.out], by go_num, by simp⟩
            case measure => simp [intOf]; omega
          · have HV : Hid (rep (k + 1) y = h2) := Lib.hid (by rw [HS.out, sh_even R hpar, hh2])
            rw [show R % 2 = 0 from by omega] at ha1
            clear hh2 hpar
            go_wp2_with fail
            go_roundw
            case rel => exact ⟨k + 1, by omega, by rw [HV.out], by go_num, by simp⟩
            case measure => simp [intOf]; omega
        · obtain rfl : k = 8 := by omega
          rw [← HCB.out]
          go_wp2_with fail
          go_roundw
          case rel => exact ⟨j + 1, by omega, rfl, by go_num, by simp⟩
          case measure => simp [intOf]; omega
    · obtain rfl : j = n := by omega
      have htk : bs.take j = bs := by rw [hn]; exact List.take_length
      rw [htk]
      have hl := crc_lt bs hs0
      have hxe : bits .xor .u32 IntKind.u32.max (crc s0 bs : Int) = ((crc s0 bs ^^^ 4294967295 : Nat) : Int) := by rw [Nat.xor_comm]; exact u32_xor_nat 4294967295 _ (by omega) hl
      have HMM := Lib.hid HM.out
      rw [← HM.out] at hxe
      generalize crc s0 bs = C at hxe
      go_wp2_with fail
      go_ret
      exact ⟨rfl, rfl⟩

theorem Sum_any (A : Option Addr) (n c : Nat) (bs : List UInt8) (w : World) (B : Nat) (h : Sl w B (.slice A n c) bs) :
    Calls Tryz.prog 83 #[.slice A n c] w fun x w' => x = .returned (.int .u32 (sum bs : Int)) ∧ w' = w := by
  have c1 := Lib.hid (More_any 0 (by omega) A n c bs w B h)
  rw [more_zero] at c1
  clear h
  go_enter Tryz.func83, Tryz.ntmps83
  go_wp2_with (go_at_call 97; go_must (refine c1.out.mono ?_; rintro y w1 ⟨rfl, rfl⟩))
  go_ret
  exact ⟨rfl, rfl⟩

end Go.Proofs.YtfblgkcipnkhaaaGreatDoor.pk
