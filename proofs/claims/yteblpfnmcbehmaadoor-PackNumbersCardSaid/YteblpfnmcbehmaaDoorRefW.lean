/-
  The document's own bytes of numbers: what it lays is what the plain functions on lists lay.
-/
import Derived.Test.YteblpfnmcbehmaaDoorWr2
import Derived.Test.YteblpfnmcbehmaaDoorPure
namespace Go.Proofs.YteblpfnmcbehmaaDoor.pk
open Go Go.RowKit
set_option maxRecDepth 100000

theorem decDigits_step (m : Nat) : Lib.decDigits m = (if m / 10 = 0 then [] else Lib.decDigits (m / 10)) ++ [UInt8.ofNat (48 + m % 10)] := by
  by_cases h : m < 10
  · rw [Lib.decDigits, dif_pos h, if_pos (by omega), show m % 10 = m from by omega]; rfl
  · rw [Lib.decDigits, dif_neg h, if_neg (by omega)]

theorem dig_piece : ∀ r, r < 10 → (⟨#[48, 49, 50, 51, 52, 53, 54, 55, 56, 57]⟩ : ByteArray).extract r (r + 1) = ⟨#[UInt8.ofNat (48 + r)]⟩ := by
  intro r hr
  have : r = 0 ∨ r = 1 ∨ r = 2 ∨ r = 3 ∨ r = 4 ∨ r = 5 ∨ r = 6 ∨ r = 7 ∨ r = 8 ∨ r = 9 := by omega
  rcases this with rfl | rfl | rfl | rfl | rfl | rfl | rfl | rfl | rfl | rfl <;> rfl
theorem dig_cons (r : Nat) (hr : r < 10) (l : List UInt8) : (⟨#[48, 49, 50, 51, 52, 53, 54, 55, 56, 57]⟩ : ByteArray).extract r (r + 1) ++ (⟨l.toArray⟩ : ByteArray) = ⟨(UInt8.ofNat (48 + r) :: l).toArray⟩ := by
  rw [dig_piece r hr]
  apply ByteArray.ext
  simp
theorem decDigits_le (u : Nat) (hu : u < 18446744073709551616) : (Lib.decDigits u).length ≤ 20 := by rw [Lib.decDigits_length]; exact Lib.nDigits_le20 u hu

theorem Digits_any (u : Nat) (hu : u < 18446744073709551616) (w : World) :
    Calls Tryd.prog 32 #[.int .u64 (u : Int)] w fun x w' => x = .returned (.string ⟨(Lib.decDigits u).toArray⟩) ∧ w' = w := by
  go_enter Tryd.func32, Tryd.ntmps32
  go_wp2
  go_loop [0, 3] (fun nn ss => ∃ (m : Nat) (l : List UInt8), m ≤ u ∧ nn = .int .u64 (m : Int) ∧ ss = .string ⟨l.toArray⟩ ∧ Hid ((l = [] ∧ m = u) ∨ (l ≠ [] ∧ Lib.decDigits u = (if m = 0 then [] else Lib.decDigits m) ++ l)))
    (fun nn ss => (intOf nn).toNat + (match ss with | .string s => if s.size = 0 then 1 else 0 | _ => 0))
  case atStart => exact ⟨u, [], Nat.le_refl _, rfl, rfl, Lib.hid (Or.inl ⟨rfl, rfl⟩)⟩
  case round =>
    obtain ⟨m, l, hm, rfl, rfl, HR⟩ := hrel
    have hl20 : l.length ≤ 20 := by
      rcases HR.out with ⟨rfl, _⟩ | ⟨_, h⟩
      · simp
      · have h1 := decDigits_le u hu
        rw [h, List.length_append] at h1
        omega
    by_cases hm0 : m = 0
    · subst hm0
      by_cases hl : l = []
      · subst hl
        have hu0 : u = 0 := by
          rcases HR.out with ⟨_, h⟩ | ⟨h, _⟩
          · exact h.symm
          · exact absurd rfl h
        have hpc := dig_cons 0 (by omega) []
        have HPC := Lib.hid hpc
        clear hpc
        go_wp2
        go_round
        case rel =>
          refine ⟨0, [48], by omega, rfl, ?_, Lib.hid (Or.inr ⟨by simp, ?_⟩)⟩
          · exact congrArg Value.string HPC.out
          · rw [hu0, Lib.decDigits_one (by omega)]; simp
        case measure => decide
      · have hz : (l == []) = false := by simpa using hl
        have hres : Lib.decDigits u = l := by
          rcases HR.out with ⟨h, _⟩ | ⟨_, h⟩
          · exact absurd h hl
          · simpa using h
        rw [hres]
        clear HR
        go_wp2
        go_ret
        exact ⟨rfl, rfl⟩
    · have hpc := dig_cons (m % 10) (by omega) l
      have HPC := Lib.hid hpc
      have hmp : (0 : Int) < (m : Int) := by omega
      have hb10 : (m : Int) % 10 + 1 ≤ 10 := by omega
      have hmn : min (m % 10 + 1) 10 - m % 10 + l.length ≤ 9223372036854775807 := by omega
      clear hpc
      go_wp2
      go_round
      case rel =>
        refine ⟨m / 10, UInt8.ofNat (48 + m % 10) :: l, by omega, ?_, ?_, Lib.hid (Or.inr ⟨by simp, ?_⟩)⟩
        · rfl
        · exact congrArg Value.string HPC.out
        · have h1 : Lib.decDigits u = Lib.decDigits m ++ l := by
            rcases HR.out with ⟨h2, h3⟩ | ⟨_, h3⟩
            · rw [h2, h3, List.append_nil]
            · rw [h3, if_neg hm0]
          rw [h1, decDigits_step m]
          simp
      case measure =>
        rw [HPC.out]
        have e1 : (⟨(UInt8.ofNat (48 + m % 10) :: l).toArray⟩ : ByteArray).size ≠ 0 := by simp [ByteArray.size]
        show ((m : Int) / 10).toNat + (if (⟨(UInt8.ofNat (48 + m % 10) :: l).toArray⟩ : ByteArray).size = 0 then 1 else 0) < (m : Int).toNat + _
        rw [if_neg e1]
        omega

theorem strCells_mk (l : List UInt8) : Lib.strCells ⟨l.toArray⟩ = Lib.byteCells l := by
  simp [Lib.strCells, Lib.byteCells]

/-- 'add(b, s)': a row of the call's own: the bytes, and the text's behind them. -/
theorem add_any (A : Option Addr) (n c : Nat) (bs l : List UInt8) (w : World) (B : Nat) (h : Sl w B (.slice A n c) bs) (hl : bs.length + l.length ≤ 140737488355328) :
    Calls Tryd.prog 31 #[.slice A n c, .string ⟨l.toArray⟩] w fun x w' => ∃ v, x = .returned v ∧ w'.ownsRow w.heap.size 5 1 v (bs ++ l).length (Lib.byteCells (bs ++ l)) ∧ Below w.heap.size w w' := by
  obtain ⟨i0, hi, hz0, hz1, hz2⟩ := info_parts info_u8
  have H := Lib.hid h
  have hsz : (⟨l.toArray⟩ : ByteArray).size = l.length := by simp [ByteArray.size]
  have hsc := Lib.hid (strCells_mk l)
  generalize (⟨l.toArray⟩ : ByteArray) = S at hsz hsc
  have HSZ := Lib.hid hsz
  clear h hsz
  go_enter Tryd.func31, Tryd.ntmps31
  go_wp2_with (at_builtin; first
    | (refine Lib.wpList_append_own_string _ rfl _ _ 24 9 rfl w.heap.size 5 i0 Tryd.underlying24 Tryd.underlying9 hi hz0 hz1 hz2 _ _ _ rfl HO.out S rfl (by simp only [maxLen]; have := HSZ.out; omega) (by have := HSZ.out; omega) HB1.out.size ?_; intro v2 w2 hown2 hgrow2 _; have HO2 := Lib.hid hown2; have HB2 := Lib.hid (HB1.out.grown hgrow2 HB1.out.size (fun k hk => (HO.out.lt k hk).1)); clear hown2 hgrow2)
    | (refine wpList_append_sl rfl _ _ 24 rfl w.heap.size 5 i0 _ Tryd.underlying24 hi hz0 hz1 hz2 rfl (.slice none 0 0) 0 [] rfl (World.ownsRow_nil _ _ _ _) B A n c bs rfl H.out (by omega) (Nat.le_refl _) ?_; intro v1 w1 hown hgrow; have HO := Lib.hid hown; have HB1 := Lib.hid ((Below.refl w.heap.size w).grown hgrow (Nat.le_refl _) (by simp [Value.ownBlock])); clear hown hgrow))
  go_ret
  have hO2 := HO2.out
  rw [hsc.out] at hO2
  refine ⟨v2, rfl, ?_, HB2.out⟩
  have e1 : (bs ++ l).length = 0 + bs.length + S.size := by rw [List.length_append, HSZ.out]; omega
  have e2 : Lib.byteCells (bs ++ l) = [] ++ Lib.byteCells bs ++ Lib.byteCells l := by simp [Lib.byteCells]
  rw [e1, e2]
  exact hO2

theorem catStr (a b : List UInt8) : (⟨a.toArray⟩ : ByteArray) ++ (⟨b.toArray⟩ : ByteArray) = ⟨(a ++ b).toArray⟩ := by
  apply ByteArray.ext
  simp

/-- 'Uint(b, n)'. -/
theorem RefUint_any (A : Option Addr) (n c u : Nat) (hu : u < 18446744073709551616) (bs : List UInt8) (w : World) (B : Nat) (h : Sl w B (.slice A n c) bs) (hl : bs.length + 22 ≤ 140737488355328) :
    Calls Tryd.prog 12 #[.slice A n c, .int .u64 (u : Int)] w fun x w' => ∃ v, x = .returned v ∧ w'.ownsRow w.heap.size 5 1 v (bs ++ lUint u).length (Lib.byteCells (bs ++ lUint u)) ∧ Below w.heap.size w w' := by
  have H := Lib.hid h
  have hd := decDigits_le u hu
  have e1 : (⟨#[110]⟩ : ByteArray) ++ (⟨(Lib.decDigits u).toArray⟩ : ByteArray) ++ (⟨#[59]⟩ : ByteArray) = ⟨(lUint u).toArray⟩ := by
    rw [show (⟨#[110]⟩ : ByteArray) = ⟨[110].toArray⟩ from rfl, show (⟨#[59]⟩ : ByteArray) = ⟨[59].toArray⟩ from rfl, catStr, catStr]; rfl
  have hlen : (lUint u).length ≤ 22 := by unfold lUint; simp; omega
  have hsz : (⟨(Lib.decDigits u).toArray⟩ : ByteArray).size ≤ 20 := by simpa [ByteArray.size] using hd
  have HE := Lib.hid e1
  have HD := Lib.hid (Digits_any u hu w)
  generalize (⟨(Lib.decDigits u).toArray⟩ : ByteArray) = D at hsz HE HD
  clear h hd e1
  go_enter Tryd.func12, Tryd.ntmps12
  go_wp2_with (first
    | (go_at_call 32; refine HD.out.mono ?_; rintro x w' ⟨rfl, rfl⟩))
  rw [HE.out]
  refine (add_any A n c bs (lUint u) _ B H.out (by omega)).mono ?_
  rintro x w2 ⟨v, rfl, hO, hB⟩
  have HO := Lib.hid hO
  have HB := Lib.hid hB
  clear hO hB
  go_wp2
  go_ret
  exact ⟨v, rfl, HO.out, HB.out⟩

/-- 'Int(b, k)'. -/
theorem RefInt_any (A : Option Addr) (n c : Nat) (k : Int) (h0 : -9223372036854775808 ≤ k) (h1 : k ≤ 9223372036854775807) (bs : List UInt8) (w : World) (B : Nat) (h : Sl w B (.slice A n c) bs) (hl : bs.length + 23 ≤ 140737488355328) :
    Calls Tryd.prog 11 #[.slice A n c, .int .i64 k] w fun x w' => ∃ v, x = .returned v ∧ w'.ownsRow w.heap.size 5 1 v (bs ++ lInt k).length (Lib.byteCells (bs ++ lInt k)) ∧ Below w.heap.size w w' := by
  have H := Lib.hid h
  obtain ⟨u, hu⟩ : ∃ u : Nat, u = k.natAbs := ⟨_, rfl⟩
  have hu64 : u < 18446744073709551616 := by omega
  have hd := decDigits_le u hu64
  have hsz : (⟨(Lib.decDigits u).toArray⟩ : ByteArray).size ≤ 20 := by simpa [ByteArray.size] using hd
  have HD := Lib.hid (Digits_any u hu64 w)
  by_cases hk : k < 0
  · have hit : Lib.itoa k = 45 :: Lib.decDigits u := by unfold Lib.itoa; rw [if_pos hk, hu]
    have e1 : (⟨#[105, 45]⟩ : ByteArray) ++ (⟨(Lib.decDigits u).toArray⟩ : ByteArray) ++ (⟨#[59]⟩ : ByteArray) = ⟨(lInt k).toArray⟩ := by
      rw [show (⟨#[105, 45]⟩ : ByteArray) = ⟨[105, 45].toArray⟩ from rfl, show (⟨#[59]⟩ : ByteArray) = ⟨[59].toArray⟩ from rfl, catStr, catStr]; unfold lInt; rw [hit]; rfl
    have hlen : (lInt k).length ≤ 23 := by unfold lInt; rw [hit]; simp; omega
    have hval : -(k + 1) + 1 = (u : Int) := by omega
    have HE := Lib.hid e1
    generalize (⟨(Lib.decDigits u).toArray⟩ : ByteArray) = D at hsz HE HD
    clear h hd e1 hit hu hu64
    go_enter Tryd.func11, Tryd.ntmps11
    go_wp2_with (first
      | (go_at_call 32; (try rw [hval]); refine HD.out.mono ?_; rintro x w' ⟨rfl, rfl⟩))
    rw [HE.out]
    refine (add_any A n c bs (lInt k) _ B H.out (by omega)).mono ?_
    rintro x w2 ⟨v, rfl, hO, hB⟩
    have HO := Lib.hid hO
    have HB := Lib.hid hB
    clear hO hB
    go_wp2
    go_ret
    exact ⟨v, rfl, HO.out, HB.out⟩
  · have hit : Lib.itoa k = Lib.decDigits u := by unfold Lib.itoa; rw [if_neg hk, hu, show k.toNat = k.natAbs from by omega]
    have e1 : (⟨#[105]⟩ : ByteArray) ++ (⟨(Lib.decDigits u).toArray⟩ : ByteArray) ++ (⟨#[59]⟩ : ByteArray) = ⟨(lInt k).toArray⟩ := by
      rw [show (⟨#[105]⟩ : ByteArray) = ⟨[105].toArray⟩ from rfl, show (⟨#[59]⟩ : ByteArray) = ⟨[59].toArray⟩ from rfl, catStr, catStr]; unfold lInt; rw [hit]; rfl
    have hlen : (lInt k).length ≤ 23 := by unfold lInt; rw [hit]; simp; omega
    obtain rfl : k = (u : Int) := by omega
    have HE := Lib.hid e1
    generalize (⟨(Lib.decDigits u).toArray⟩ : ByteArray) = D at hsz HE HD
    clear h hd e1 hit hu hu64
    go_enter Tryd.func11, Tryd.ntmps11
    go_wp2_with (first
      | (go_at_call 32; refine HD.out.mono ?_; rintro x w' ⟨rfl, rfl⟩))
    rw [HE.out]
    refine (add_any A n c bs (lInt (u : Int)) _ B H.out (by omega)).mono ?_
    rintro x w2 ⟨v, rfl, hO, hB⟩
    have HO := Lib.hid hO
    have HB := Lib.hid hB
    clear hO hB
    go_wp2
    go_ret
    exact ⟨v, rfl, HO.out, HB.out⟩

end Go.Proofs.YteblpfnmcbehmaaDoor.pk
