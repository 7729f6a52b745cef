/-
  The tape's numbers as bytes: walked.
-/
import Derived.Test.YthcikgbnenfjpaaDoorTapA
import Derived.Test.YthcikgbnenfjpaaDoorPureV
import Derived.Laws.BitsAllLaws
import Derived.IntWalk
namespace Go.Proofs.YthcikgbnenfjpaaDoor.pk
open Go Go.RowKit
set_option maxRecDepth 100000

theorem numL_lt : ∀ (k : Nat) (l : List UInt8), k ≤ 4 → (numL (l.take k)) ≤ 4294967295
  | 0, _, _ => by simp [numL]
  | k + 1, l, hk => by
    have hb : ∀ l : List UInt8, ∀ n, l.foldl (fun n c => n * 256 + c.toNat) n + 1 ≤ (n + 1) * 256 ^ l.length := by
      intro l
      induction l with
      | nil => intro n; simp
      | cons c l ih =>
        intro n
        have h1 := ih (n * 256 + c.toNat)
        have h2 := c.toNat_lt
        rw [List.foldl_cons, List.length_cons, Nat.pow_succ]
        refine Nat.le_trans h1 ?_
        have h3 : n * 256 + c.toNat + 1 ≤ (n + 1) * 256 := by omega
        calc (n * 256 + c.toNat + 1) * 256 ^ l.length ≤ ((n + 1) * 256) * 256 ^ l.length := Nat.mul_le_mul_right _ h3
          _ = (n + 1) * (256 ^ l.length * 256) := by rw [Nat.mul_assoc, Nat.mul_comm 256]
    have h1 := hb (l.take (k + 1)) 0
    have h2 : (256 : Nat) ^ (l.take (k + 1)).length ≤ 256 ^ 4 := Nat.pow_le_pow_right (by omega) (by rw [List.length_take]; omega)
    unfold numL
    simp only [Nat.zero_add, Nat.one_mul] at h1
    omega

theorem ofInt_i64 (a : Nat) (ha : a < 18446744073709551616) : (BitVec.ofInt 64 (a : Int)).toNat = a := by
  rw [BitVec.ofInt_natCast, BitVec.toNat_ofNat]; exact Nat.mod_eq_of_lt (by omega)
theorem or_shift (v c : Nat) (hv : v ≤ 4294967295) (hc : c < 256) : bits .or .i64 ((v : Int) * 256) (c : Int) = ((v * 256 + c : Nat) : Int) := by
  have h0 : ((v : Int) * 256) = ((v * 256 : Nat) : Int) := by omega
  rw [h0]
  have h2 : v * 256 ||| c = v * 256 + c := by
    have := Nat.shiftLeft_add_eq_or_of_lt (show c < 2 ^ 8 from hc) v
    rw [Nat.shiftLeft_eq] at this
    exact this.symm
  show IntKind.i64.wrap ((BitVec.ofInt 64 ((v * 256 : Nat) : Int) ||| BitVec.ofInt 64 (c : Int)).toNat : Int) = _
  rw [BitVec.toNat_or, ofInt_i64 _ (by omega), ofInt_i64 _ (by omega), h2]
  exact IntWalk.i64_in _ (by omega)

theorem length_cells (b off c : Nat) (x : List UInt8) (w : World) (hx : x.length = 4) (hc : ∀ t, t < 4 → w.cell? ⟨b, off + t, none⟩ = some (.int .u8 ((x.getD t 0).toNat : Int))) :
    Calls Tryd.prog 36 #[.slice (some ⟨b, off, none⟩) 4 c] w fun y w' => y = .returned (.int .i64 (numL x : Int)) ∧ w = w' := by
  have HX := Lib.hid hx
  have HC := Lib.hid hc
  clear hx hc
  go_enter Tryd.func36, Tryd.ntmps36
  go_wp2
  go_loop [3, 8] (fun n i => ∃ k v : Nat, k ≤ 4 ∧ i = .int .i64 (k : Int) ∧ n = .int .i64 (v : Int) ∧ v = numL (x.take k)) (fun _ i => 4 - (intOf i).toNat)
  case atStart => exact ⟨0, 0, by omega, rfl, rfl, rfl⟩
  case round =>
    obtain ⟨k, v, hk, rfl, rfl, hv⟩ := hrel
    have HV := Lib.hid hv
    have hvb : (v : Int) ≤ 4294967295 := by rw [hv]; have := numL_lt k x hk; omega
    clear hv
    by_cases hlt : k < 4
    · have g := HC.out k hlt
      obtain ⟨u, hu⟩ : ∃ u, u = (x.getD k 0).toNat := ⟨_, rfl⟩
      have hub : (u : Int) < 256 := by rw [hu]; have := (x.getD k 0).toNat_lt; omega
      rw [← hu] at g
      have HU := Lib.hid hu
      have ho := or_shift v u (by omega) (by omega)
      clear hu
      go_wp2
      go_round
      case rel => exact ⟨k + 1, v * 256 + u, by omega, by go_num, by go_num, by
        have e : x.take (k + 1) = x.take k ++ [x.getD k 0] := by
          have hlx : k < x.length := by have := HX.out; omega
          rw [List.take_succ_eq_append_getElem hlx]
          simp [List.getD, List.getElem?_eq_getElem hlx]
        rw [e, numL_snoc, ← HV.out, ← HU.out]⟩
      case measure => simp [intOf]; omega
    · have hge : ¬ (k : Int) < 4 := by omega
      have e : v = numL x := by rw [HV.out, List.take_of_length_le (by have := HX.out; omega)]
      have HE := Lib.hid e
      clear e
      go_wp2
      go_ret
      exact ⟨by rw [HE.out]; rfl, rfl⟩

end Go.Proofs.YthcikgbnenfjpaaDoor.pk
