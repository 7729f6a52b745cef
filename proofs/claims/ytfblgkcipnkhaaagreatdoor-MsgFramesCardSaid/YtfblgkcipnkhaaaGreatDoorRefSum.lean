/-
  The document's own sum, bit by bit: what it answers is the plain sum.
-/
import Derived.Test.YtfblgkcipnkhaaaGreatDoorJa
import Derived.Test.YtfblgkcipnkhaaaGreatDoorJi
import Derived.Laws.BitsAllLaws
import Derived.Deep.DeepCutAuto
import Derived.BigRegion
namespace Go.Proofs.YtfblgkcipnkhaaaGreatDoor.pk
open Go Go.RowKit
set_option maxRecDepth 100000

/-- The document's register behind k bits of a byte. -/
def refR (r c : Nat) : Nat → Nat
  | 0 => r
  | k + 1 => if refR r c k % 2 = c / 2 ^ k % 2 then refR r c k / 2 else refR r c k / 2 ^^^ 2197175160
theorem refR_rep (r c : Nat) : ∀ k, refR r c k ^^^ c / 2 ^ k = rep k (r ^^^ c)
  | 0 => by simp [refR, rep]
  | k + 1 => by
    have ih := refR_rep r c k
    have hd : c / 2 ^ (k + 1) = c / 2 ^ k / 2 := by rw [Nat.pow_succ, Nat.div_div_eq_div_mul]
    have hr : rep (k + 1) (r ^^^ c) = sh (rep k (r ^^^ c)) := by rw [rep_add k 1]; rfl
    have hm := Nat.xor_mod_two_eq_one (a := refR r c k) (b := c / 2 ^ k)
    rw [hr, ← ih, hd]
    unfold sh
    rw [show refR r c (k + 1) = if refR r c k % 2 = c / 2 ^ k % 2 then refR r c k / 2 else refR r c k / 2 ^^^ 2197175160 from rfl]
    by_cases h : refR r c k % 2 = c / 2 ^ k % 2
    · rw [if_pos h, if_neg (by rw [hm, h]; simp), xor_div2]
    · rw [if_neg h, if_pos (by rw [hm]; omega), xor_div2, Nat.xor_assoc, Nat.xor_comm 2197175160, ← Nat.xor_assoc]
theorem refR_byte (r c : Nat) (hc : c < 256) : refR r c 8 = crcB r c := by
  have := refR_rep r c 8
  rw [Nat.div_eq_of_lt (by omega), Nat.xor_zero] at this
  exact this
theorem refR_lt (r c : Nat) (hr : r < 4294967296) : ∀ k, refR r c k < 4294967296
  | 0 => hr
  | k + 1 => by
    have ih := refR_lt r c hr k
    unfold refR
    by_cases h : refR r c k % 2 = c / 2 ^ k % 2
    · rw [if_pos h]; omega
    · rw [if_neg h]
      exact Nat.xor_lt_two_pow (n := 32) (by omega) (by omega)

theorem RefSum_any (A : Option Addr) (n c : Nat) (bs : List UInt8) (w : World) (B : Nat) (hB : B ≤ w.heap.size) (h : Sl w B (.slice A n c) bs) :
    Calls Tryz.prog 54 #[.slice A n c] w fun x w' => x = .returned (.int .u32 (sum bs : Int)) ∧ Below w.heap.size w w' := by
  obtain ⟨hn, hc1, hc2⟩ := h.len
  have H := Lib.hid h
  go_enter Tryz.func54, Tryz.ntmps54
  go_wp2_with fail
  go_loopw [3, 4] (fun rr ii wr => ∃ j : Nat, j ≤ n ∧ rr = .int .u32 (crc 4294967295 (bs.take j) : Int) ∧ ii = .int .i64 (j : Int) ∧ Below w.heap.size w wr) (fun _ ii _ => n - (intOf ii).toNat)
  case atStart => exact ⟨0, by omega, rfl, rfl, Below.refl _ _⟩
  case round =>
    obtain ⟨j, hj, rfl, rfl, hb⟩ := hrel
    have HB := Lib.hid hb
    by_cases hlt : j < n
    · have hz := hb.size
      have hsl := H.out.below (hb.mono hB)
      obtain ⟨A', c', hv, _, _, h3⟩ := hsl
      injection hv with e1 e2 e3
      subst e1; subst e3
      have hjl : j < bs.length := by omega
      rcases h3 with h3 | ⟨b, off, rfl, hbB, hcell⟩
      · rw [h3] at hjl; simp at hjl
      have hq := hcell j hjl
      have hgd : bs.getD j 0 = bs[j] := by simp [List.getD, List.getElem?_eq_getElem hjl]
      rw [hgd] at hq
      have htk : crc 4294967295 (bs.take (j + 1)) = crcB (crc 4294967295 (bs.take j)) bs[j].toNat := by rw [List.take_succ_eq_append_getElem hjl, crc_append]; rfl
      have HTK := Lib.hid htk
      have hr := crc_lt (bs.take j) (s := 4294967295) (by omega)
      have hx := bs[j].toNat_lt
      generalize bs[j].toNat = x at hq HTK hx
      generalize crc 4294967295 (bs.take j) = r at HTK hr
      have i1 : (j : Int) < (n : Int) := by omega
      clear hcell htk hgd hb
      go_wp2_with fail
      go_loopw [3, 5] (fun rr kk wq => ∃ k : Nat, k ≤ 8 ∧ rr = .int .u32 (refR r x k : Int) ∧ kk = .int .i64 (k : Int) ∧ Below w.heap.size w wq ∧ wq.cell? ⟨b, off + j, none⟩ = some (.int .u8 (x : Int))) (fun _ kk _ => 8 - (intOf kk).toNat)
      case atStart => exact ⟨0, by omega, rfl, rfl, HB.out, hq⟩
      case round =>
        obtain ⟨k, hk, rfl, rfl, hbk, hqk⟩ := hrel
        have HBk := Lib.hid hbk
        by_cases hk8 : k < 8
        · have i2 : (k : Int) < 8 := by omega
          go_upto_region 8 with fail
          have hbw : b < wr.heap.size := by have := HBk.out.size; omega
          have hx8 : x < 256 := hx
          obtain ⟨p, hp⟩ : ∃ p, p = 2 ^ k := ⟨_, rfl⟩
          have hp0 : 0 < p := by rw [hp]; exact Nat.pos_of_ne_zero (by simp)
          have hrs : refR r x (k + 1) = if refR r x k % 2 = x / p % 2 then refR r x k / 2 else refR r x k / 2 ^^^ 2197175160 := by rw [hp]; rfl
          have hpk : (wr.alloc (Obj.cells #[Value.int IntKind.u8 1, Value.int IntKind.u8 2, Value.int IntKind.u8 4, Value.int IntKind.u8 8, Value.int IntKind.u8 16, Value.int IntKind.u8 32, Value.int IntKind.u8 64, Value.int IntKind.u8 128] 5)).drew.cell? ⟨wr.heap.size, k, none⟩ = some (.int .u8 (p : Int)) := by
            rw [hp]
            match k, hk8 with
            | 0, _ => simp
            | 1, _ => simp
            | 2, _ => simp
            | 3, _ => simp
            | 4, _ => simp
            | 5, _ => simp
            | 6, _ => simp
            | 7, _ => simp
          have hpl : (wr.alloc (Obj.cells #[Value.int IntKind.u8 1, Value.int IntKind.u8 2, Value.int IntKind.u8 4, Value.int IntKind.u8 8, Value.int IntKind.u8 16, Value.int IntKind.u8 32, Value.int IntKind.u8 64, Value.int IntKind.u8 128] 5)).drew.cell? ⟨b, off + j, none⟩ = some (.int .u8 (x : Int)) := by
            rw [World.cell?_drew, World.cell?_alloc_lt _ _ ⟨b, off + j, none⟩ hbw]
            exact hqk
          have hpi : ((p : Int) == 0) = false := by rw [beq_eq_false_iff_ne]; omega
          have hpn : ¬ (p : Int) = 0 := by omega
          have hq1 : (x : Int).tdiv (p : Int) = ((x / p : Nat) : Int) := by rw [Int.tdiv_eq_ediv_of_nonneg (by omega)]; rfl
          have hqx : x / p ≤ x := Nat.div_le_self x p
          generalize x / p = y at hq1 hqx hrs
          have hq2 : IntKind.u8.wrap (y : Int) = (y : Int) := by rw [IntKind.wrap_u8']; omega
          have hq3 : IntKind.u32.wrap (y : Int) = (y : Int) := by rw [IntKind.wrap_u32']; omega
          have hq4 : (y : Int).tmod 2 = ((y % 2 : Nat) : Int) := by rw [Int.tmod_eq_emod_of_nonneg (by omega)]; rfl
          have hq5 : IntKind.u32.wrap ((y % 2 : Nat) : Int) = ((y % 2 : Nat) : Int) := by rw [IntKind.wrap_u32']; omega
          clear hp hbw
          go_region
          have hbw8 : Below w.heap.size w (wr.alloc (Obj.cells #[Value.int IntKind.u8 1, Value.int IntKind.u8 2, Value.int IntKind.u8 4, Value.int IntKind.u8 8, Value.int IntKind.u8 16, Value.int IntKind.u8 32, Value.int IntKind.u8 64, Value.int IntKind.u8 128] 5)).drew := (HBk.out.alloc HBk.out.size _).drew
          have HB8 := Lib.hid hbw8
          have HPL := Lib.hid hpl
          generalize (wr.alloc (Obj.cells #[Value.int IntKind.u8 1, Value.int IntKind.u8 2, Value.int IntKind.u8 4, Value.int IntKind.u8 8, Value.int IntKind.u8 16, Value.int IntKind.u8 32, Value.int IntKind.u8 64, Value.int IntKind.u8 128] 5)).drew = w8 at HB8 HPL
          clear hpl hpk hqk hbw8 hq1 hq2 hq3 hq4 hq5 hpi hpn
          have hRl := refR_lt r x hr k
          have HRS := Lib.hid hrs
          clear hrs
          generalize refR r x k = R at HRS hRl
          have hr1 : (R : Int).tmod 2 = (R : Int) % 2 := Int.tmod_eq_emod_of_nonneg (by omega)
          have hr2 : IntKind.u32.wrap ((R : Int) % 2) = (R : Int) % 2 := by rw [IntKind.wrap_u32']; omega
          obtain ⟨h2, hh2⟩ : ∃ h2 : Nat, h2 = R / 2 := ⟨_, rfl⟩
          have hr3 : (R : Int).tdiv 2 = (h2 : Int) := by rw [Int.tdiv_eq_ediv_of_nonneg (by omega), hh2]; rfl
          have hr4 : IntKind.u32.wrap (h2 : Int) = (h2 : Int) := by rw [IntKind.wrap_u32']; omega
          have hr5 : bits .xor .u32 (h2 : Int) 2197175160 = ((h2 ^^^ 2197175160 : Nat) : Int) := u32_xor_nat h2 2197175160 (by omega) (by omega)
          by_cases hpar : R % 2 = y % 2
          · have HV : Hid (refR r x (k + 1) = h2) := Lib.hid (by rw [HRS.out, if_pos hpar, hh2])
            have hpI : (R : Int) % 2 = (y : Int) % 2 := by omega
            have hpB : ((R : Int) % 2 == (y : Int) % 2) = true := by rw [beq_iff_eq]; exact hpI
            clear hh2 hpar
            go_wp2_with fail
            go_roundw
            case rel => exact ⟨k + 1, by omega, by rw [HV.out], by go_num, HB8.out, HPL.out⟩
            case measure => simp [intOf]; omega
          · have HV : Hid (refR r x (k + 1) = h2 ^^^ 2197175160) := Lib.hid (by rw [HRS.out, if_neg hpar, hh2])
            have hpI : ¬ (R : Int) % 2 = (y : Int) % 2 := by omega
            have hpB : ((R : Int) % 2 == (y : Int) % 2) = false := by rw [beq_eq_false_iff_ne]; exact hpI
            clear hh2 hpar
            go_wp2_with fail
            go_roundw
            case rel => exact ⟨k + 1, by omega, by rw [HV.out], by go_num, HB8.out, HPL.out⟩
            case measure => simp [intOf]; omega
        · obtain rfl : k = 8 := by omega
          have hby := refR_byte r x hx
          rw [← HTK.out] at hby
          have HBY := Lib.hid hby
          clear hby
          generalize refR r x 8 = R at HBY
          go_wp2_with fail
          go_roundw
          case rel => exact ⟨j + 1, by omega, by rw [HBY.out], by go_num, HBk.out⟩
          case measure => simp [intOf]; omega
    · obtain rfl : j = n := by omega
      have htk : bs.take j = bs := by rw [hn]; exact List.take_length
      have hl := crc_lt bs (s := 4294967295) (by omega)
      obtain ⟨S, hS⟩ : ∃ S, S = sum bs := ⟨_, rfl⟩
      have hsum : (4294967295 : Int) - (crc 4294967295 bs : Int) = (S : Int) := by rw [hS, sum_sub]; omega
      have hwr : IntKind.u32.wrap (S : Int) = (S : Int) := by rw [IntKind.wrap_u32']; omega
      rw [htk]
      have HSS := Lib.hid hS
      generalize crc 4294967295 bs = C at hsum hl
      clear hb htk hS
      go_wp2_with fail
      go_ret
      exact ⟨by rw [← HSS.out]; rfl, HB.out⟩

end Go.Proofs.YtfblgkcipnkhaaaGreatDoor.pk
