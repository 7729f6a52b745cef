/-
  The document's own bytes of numbers, of truths, of bytes, of an entry, of a message.
-/
import Derived.Test.YtfblgkcipnkhaaaGreatDoorGivM
import Derived.Test.YtfblgkcipnkhaaaGreatDoorJf
import Derived.Lib.AppendStr
import Derived.Deep.Strs
namespace Go.Proofs.YtfblgkcipnkhaaaGreatDoor.pk
open Go Go.RowKit
set_option maxRecDepth 100000

theorem decDigits_step (m : Nat) : Lib.decDigits m = (if m / 10 = 0 then [] else Lib.decDigits (m / 10)) ++ [UInt8.ofNat (48 + m % 10)] := by
  by_cases h : m < 10
  · rw [Lib.decDigits, dif_pos h, if_pos (by omega), show m % 10 = m from by omega]; rfl
  · rw [Lib.decDigits, dif_neg h, if_neg (by omega)]

theorem dig_piece : ∀ r, r < 10 → (⟨#[48, 49, 50, 51, 52, 53, 54, 55, 56, 57]⟩ : ByteArray).extract r (r + 1) = ⟨#[UInt8.ofNat (48 + r)]⟩ := by
  intro r hr
  have : r = 0 ∨ r = 1 ∨ r = 2 ∨ r = 3 ∨ r = 4 ∨ r = 5 ∨ r = 6 ∨ r = 7 ∨ r = 8 ∨ r = 9 := by omega
  rcases this with rfl | rfl | rfl | rfl | rfl | rfl | rfl | rfl | rfl | rfl <;> rfl
theorem dig_cons (r : Nat) (hr : r < 10) (l : List UInt8) : (⟨#[48, 49, 50, 51, 52, 53, 54, 55, 56, 57]⟩ : ByteArray).extract r (r + 1) ++ (⟨l.toArray⟩ : ByteArray) = ⟨(UInt8.ofNat (48 + r) :: l).toArray⟩ := by
  rw [dig_piece r hr]
  apply ByteArray.ext
  simp
theorem decDigits_le (u : Nat) (hu : u < 18446744073709551616) : (Lib.decDigits u).length ≤ 20 := by rw [Lib.decDigits_length]; exact Lib.nDigits_le20 u hu
theorem Digits_any (u : Nat) (hu : u < 18446744073709551616) (w : World) :
    Calls Tryz.prog 77 #[.int .u64 (u : Int)] w fun x w' => x = .returned (.string ⟨(Lib.decDigits u).toArray⟩) ∧ w' = w := by
  go_enter Tryz.func77, Tryz.ntmps77
  go_wp2
  go_loop [0, 3] (fun nn ss => ∃ (m : Nat) (l : List UInt8), m ≤ u ∧ nn = .int .u64 (m : Int) ∧ ss = .string ⟨l.toArray⟩ ∧ Hid ((l = [] ∧ m = u) ∨ (l ≠ [] ∧ Lib.decDigits u = (if m = 0 then [] else Lib.decDigits m) ++ l)))
    (fun nn ss => (intOf nn).toNat + (match ss with | .string s => if s.size = 0 then 1 else 0 | _ => 0))
  case atStart => exact ⟨u, [], Nat.le_refl _, rfl, rfl, Lib.hid (Or.inl ⟨rfl, rfl⟩)⟩
  case round =>
    obtain ⟨m, l, hm, rfl, rfl, HR⟩ := hrel
    have hl20 : l.length ≤ 20 := by
      rcases HR.out with ⟨rfl, _⟩ | ⟨_, h⟩
      · simp
      · have h1 := decDigits_le u hu
        rw [h, List.length_append] at h1
        omega
    by_cases hm0 : m = 0
    · subst hm0
      by_cases hl : l = []
      · subst hl
        have hu0 : u = 0 := by
          rcases HR.out with ⟨_, h⟩ | ⟨h, _⟩
          · exact h.symm
          · exact absurd rfl h
        have hpc := dig_cons 0 (by omega) []
        have HPC := Lib.hid hpc
        clear hpc
        go_wp2
        go_round
        case rel =>
          refine ⟨0, [48], by omega, rfl, ?_, Lib.hid (Or.inr ⟨by simp, ?_⟩)⟩
          · exact congrArg Value.string HPC.out
          · rw [hu0, Lib.decDigits_one (by omega)]; simp
        case measure => decide
      · have hz : (l == []) = false := by simpa using hl
        have hres : Lib.decDigits u = l := by
          rcases HR.out with ⟨h, _⟩ | ⟨_, h⟩
          · exact absurd h hl
          · simpa using h
        rw [hres]
        clear HR
        go_wp2
        go_ret
        exact ⟨rfl, rfl⟩
    · have hpc := dig_cons (m % 10) (by omega) l
      have HPC := Lib.hid hpc
      have hmp : (0 : Int) < (m : Int) := by omega
      have hb10 : (m : Int) % 10 + 1 ≤ 10 := by omega
      have hmn : min (m % 10 + 1) 10 - m % 10 + l.length ≤ 9223372036854775807 := by omega
      clear hpc
      go_wp2
      go_round
      case rel =>
        refine ⟨m / 10, UInt8.ofNat (48 + m % 10) :: l, by omega, ?_, ?_, Lib.hid (Or.inr ⟨by simp, ?_⟩)⟩
        · rfl
        · exact congrArg Value.string HPC.out
        · have h1 : Lib.decDigits u = Lib.decDigits m ++ l := by
            rcases HR.out with ⟨h2, h3⟩ | ⟨_, h3⟩
            · rw [h2, h3, List.append_nil]
            · rw [h3, if_neg hm0]
          rw [h1, decDigits_step m]
          simp
      case measure =>
        rw [HPC.out]
        have e1 : (⟨(UInt8.ofNat (48 + m % 10) :: l).toArray⟩ : ByteArray).size ≠ 0 := by simp [ByteArray.size]
        show ((m : Int) / 10).toNat + (if (⟨(UInt8.ofNat (48 + m % 10) :: l).toArray⟩ : ByteArray).size = 0 then 1 else 0) < (m : Int).toNat + _
        rw [if_neg e1]
        omega

theorem strCells_mk (l : List UInt8) : Lib.strCells ⟨l.toArray⟩ = Lib.byteCells l := by
  simp [Lib.strCells, Lib.byteCells]

/-- 'add(b, s)': a row of the call's own: the bytes, and the text's behind them. -/
theorem add_any (A : Option Addr) (n c : Nat) (bs l : List UInt8) (w : World) (h : Bys w (.slice A n c) bs) (hl : bs.length + l.length ≤ 140737488355328) (m : Nat) (hm : m = (bs ++ l).length) :
    Calls Tryz.prog 76 #[.slice A n c, .string ⟨l.toArray⟩] w fun x w' => ∃ A1 c1, x = .returned (.slice A1 m c1) ∧ Bys w' (.slice A1 m c1) (bs ++ l) ∧ Below w.heap.size w w' := by
  obtain ⟨i0, hi, hz0, hz1, hz2⟩ := info_parts info_u8
  have H := Lib.hid h.sl_
  have hsz : (⟨l.toArray⟩ : ByteArray).size = l.length := by simp [ByteArray.size]
  have hsc := Lib.hid (strCells_mk l)
  generalize (⟨l.toArray⟩ : ByteArray) = S at hsz hsc
  have HSZ := Lib.hid (And.intro hsz hm)
  clear h hsz hm
  go_enter Tryz.func76, Tryz.ntmps76
  go_wp2_with (at_builtin; first
    | (refine Lib.wpList_append_own_string _ rfl _ _ 22 9 rfl w.heap.size 5 i0 Tryz.underlying22 Tryz.underlying9 hi hz0 hz1 hz2 _ _ _ rfl HO.out S rfl (by simp only [maxLen]; have := HSZ.out.1; omega) (by have := HSZ.out.1; omega) HB1.out.size ?_; intro v2 w2 hown2 hgrow2 _; have HO2 := Lib.hid hown2; have HB2 := Lib.hid (HB1.out.grown hgrow2 HB1.out.size (fun k hk => (HO.out.lt k hk).1)); clear hown2 hgrow2)
    | (refine wpList_append_sl rfl _ _ 22 rfl w.heap.size 5 i0 _ Tryz.underlying22 hi hz0 hz1 hz2 rfl (.slice none 0 0) 0 [] rfl (World.ownsRow_nil _ _ _ _) w.heap.size A n c bs rfl H.out (by omega) (Nat.le_refl _) ?_; intro v1 w1 hown hgrow; have HO := Lib.hid hown; have HB1 := Lib.hid ((Below.refl w.heap.size w).grown hgrow (Nat.le_refl _) (by simp [Value.ownBlock])); clear hown hgrow))
  go_ret
  have hO2 := HO2.out
  rw [hsc.out] at hO2
  have e1 : (bs ++ l).length = 0 + bs.length + S.size := by rw [List.length_append, HSZ.out.1]; omega
  have e2 : Lib.byteCells (bs ++ l) = [] ++ Lib.byteCells bs ++ Lib.byteCells l := by simp [Lib.byteCells]
  have hO3 : w2.ownsRow w.heap.size 5 1 v2 (bs ++ l).length (Lib.byteCells (bs ++ l)) := by rw [e1, e2]; exact hO2
  obtain ⟨A1, c1, hv, -, -⟩ := (Bys.of_own hO3).form
  have hb := Bys.of_own hO3
  rw [hv, ← HSZ.out.2] at hb
  rw [← HSZ.out.2] at hv
  subst hv
  exact ⟨A1, c1, rfl, hb, HB2.out⟩

theorem catStr (a b : List UInt8) : (⟨a.toArray⟩ : ByteArray) ++ (⟨b.toArray⟩ : ByteArray) = ⟨(a ++ b).toArray⟩ := by
  apply ByteArray.ext
  simp

/-- 'Uint(b, n)'. -/
theorem RefUint_any (A : Option Addr) (n c u : Nat) (hu : u < 18446744073709551616) (bs : List UInt8) (w : World) (h : Bys w (.slice A n c) bs) (hl : bs.length + 22 ≤ 140737488355328) (m : Nat) (hm : m = (bs ++ lUint u).length) :
    Calls Tryz.prog 48 #[.slice A n c, .int .u64 (u : Int)] w fun x w' => ∃ A1 c1, x = .returned (.slice A1 m c1) ∧ Bys w' (.slice A1 m c1) (bs ++ lUint u) ∧ Below w.heap.size w w' := by
  have H := Lib.hid h
  have hd := decDigits_le u hu
  have e1 : (⟨#[110]⟩ : ByteArray) ++ (⟨(Lib.decDigits u).toArray⟩ : ByteArray) ++ (⟨#[59]⟩ : ByteArray) = ⟨(lUint u).toArray⟩ := by
    rw [show (⟨#[110]⟩ : ByteArray) = ⟨[110].toArray⟩ from rfl, show (⟨#[59]⟩ : ByteArray) = ⟨[59].toArray⟩ from rfl, catStr, catStr]; rfl
  have hlen : (lUint u).length ≤ 22 := by unfold lUint; simp; omega
  have hsz : (⟨(Lib.decDigits u).toArray⟩ : ByteArray).size ≤ 20 := by simpa [ByteArray.size] using hd
  have HE := Lib.hid e1
  have HD := Lib.hid (Digits_any u hu w)
  generalize (⟨(Lib.decDigits u).toArray⟩ : ByteArray) = D at hsz HE HD
  have HM := Lib.hid hm
  clear h hd e1 hm
  go_enter Tryz.func48, Tryz.ntmps48
  go_wp2_with (first
    | (go_at_call 77; refine HD.out.mono ?_; rintro x w' ⟨rfl, rfl⟩))
  rw [HE.out]
  refine (add_any A n c bs (lUint u) _ H.out (by omega) m HM.out).mono ?_
  rintro x w2 ⟨A1, c1, rfl, hO, hB⟩
  have HO := Lib.hid hO
  have HB := Lib.hid hB
  clear hO hB
  go_wp2
  go_ret
  exact ⟨A1, c1, rfl, HO.out, HB.out⟩

set_option maxHeartbeats 4000000 in
/-- 'Bytes(b, x)'. -/
theorem RefBytes_any (A : Option Addr) (n c : Nat) (bs : List UInt8) (A' : Option Addr) (n' c' : Nat) (xs : List UInt8) (w : World) (h : Bys w (.slice A n c) bs) (h' : Bys w (.slice A' n' c') xs) (hl : bs.length ≤ 1000000000) (hl' : n' ≤ 1000000000) (m : Nat) (hm : m = (bs ++ lBytes xs).length) :
    Calls Tryz.prog 49 #[.slice A n c, .slice A' n' c'] w fun x w' => ∃ A1 c1, x = .returned (.slice A1 m c1) ∧ Bys w' (.slice A1 m c1) (bs ++ lBytes xs) ∧ Below w.heap.size w w' := by
  have hn := h'.len_
  have hd := decDigits_le n' (by omega)
  have e1 : (⟨#[98]⟩ : ByteArray) ++ (⟨(Lib.decDigits n').toArray⟩ : ByteArray) ++ (⟨#[58]⟩ : ByteArray) ++ (⟨xs.toArray⟩ : ByteArray) = ⟨(lBytes xs).toArray⟩ := by
    rw [show (⟨#[98]⟩ : ByteArray) = ⟨[98].toArray⟩ from rfl, show (⟨#[58]⟩ : ByteArray) = ⟨[58].toArray⟩ from rfl, catStr, catStr, catStr]
    unfold lBytes lHead; rw [← hn]; simp
  have hlen : (lBytes xs).length ≤ 22 + n' := by unfold lBytes lHead; rw [← hn]; simp; omega
  have hsz : (⟨(Lib.decDigits n').toArray⟩ : ByteArray).size ≤ 20 := by simpa [ByteArray.size] using hd
  have hsx : (⟨xs.toArray⟩ : ByteArray).size ≤ 1000000000 := by simp [ByteArray.size]; omega
  have HE := Lib.hid e1
  have HD := Lib.hid fun W => Digits_any n' (by omega) W
  have HV := Lib.hid fun W (hW : Below w.heap.size w W) => conv_bytes (h'.below hW).sl_
  generalize (⟨(Lib.decDigits n').toArray⟩ : ByteArray) = D at hsz HE HD
  generalize (⟨xs.toArray⟩ : ByteArray) = X at hsx HE HV
  have HM := Lib.hid (And.intro hm (And.intro h hlen))
  have hn2 : (n' : Int) ≤ 1000000000 := by omega
  have hwu : IntKind.u64.wrap (n' : Int) = (n' : Int) := by rw [IntKind.wrap_u64]; omega
  clear h h' hd e1 hm hlen hn
  go_enter Tryz.func49, Tryz.ntmps49
  go_upto_region 1 with fail
  have hd0 : Below w.heap.size w w.drew := (Below.refl _ _).drew
  have t1 : 1 + D.size ≤ 9223372036854775807 := by omega
  have t2 : 1 + D.size ≤ 9223372036854775806 := by omega
  have t3 : 1 + D.size + 1 + X.size ≤ 9223372036854775807 := by omega
  refine wp_region_held_drew (S := fun W => Below w.heap.size w W) (by kernel_rfl) hd0 (fun hHeld => ?_)
  refine wpAnyH_take (i := 0) (oi := { dst := Option.some 5, op := Op.move (Operand.tmp 0), type := 22, pos := "ref.go:43", after := #[], guard := Option.none }) (v := .slice A n c) rfl (by kernel_rfl) (by kernel_rfl) (by kernel_rfl) (fun _ _ _ h => h) (Or.inl ⟨by rfl, ?_⟩) hHeld ?_
  · intro W hSw
    go_simp
  simp only [Act.put, List.setIfInBounds_toArray, List.set_cons_zero, List.set_cons_succ]
  refine wpAnyH_take (i := 1) (oi := { dst := Option.some 6, op := Op.move (Operand.tmp 1), type := 22, pos := "ref.go:43", after := #[], guard := Option.none }) (v := .slice A' n' c') rfl (by kernel_rfl) (by kernel_rfl) (by kernel_rfl) (fun _ _ _ h => h) (Or.inl ⟨by rfl, ?_⟩) hHeld ?_
  · intro W hSw
    go_simp
  simp only [Act.put, List.setIfInBounds_toArray, List.set_cons_zero, List.set_cons_succ]
  refine wpAnyH_take (i := 2) (oi := { dst := Option.some 7, op := Op.call { callee := Callee.builtin Builtin.len, args := #[Operand.tmp 6], argTypes := #[22] }, type := 3, pos := "ref.go:43", after := #[{ on := 1, ground := Ground.data }], guard := Option.none }) (v := .int .i64 (n' : Int)) rfl (by kernel_rfl) (by kernel_rfl) (by kernel_rfl) (fun _ _ _ h => h) (Or.inl ⟨by rfl, ?_⟩) hHeld ?_
  · intro W hSw
    go_simp
  simp only [Act.put, List.setIfInBounds_toArray, List.set_cons_zero, List.set_cons_succ]
  refine wpAnyH_take (i := 3) (oi := { dst := Option.some 8, op := Op.convert 3 51 (Operand.tmp 7), type := 51, pos := "ref.go:43", after := #[{ on := 2, ground := Ground.data }], guard := Option.none }) (v := .int .u64 (n' : Int)) rfl (by kernel_rfl) (by kernel_rfl) (by kernel_rfl) (fun _ _ _ h => h) (Or.inl ⟨by rfl, ?_⟩) hHeld ?_
  · intro W hSw
    go_simp
  simp only [Act.put, List.setIfInBounds_toArray, List.set_cons_zero, List.set_cons_succ]
  refine wpAnyH_take (i := 7) (oi := { dst := Option.some 12, op := Op.move (Operand.tmp 1), type := 22, pos := "ref.go:43", after := #[], guard := Option.none }) (v := .slice A' n' c') rfl (by kernel_rfl) (by kernel_rfl) (by kernel_rfl) (fun _ _ _ h => h) (Or.inl ⟨by rfl, ?_⟩) hHeld ?_
  · intro W hSw
    go_simp
  simp only [Act.put, List.setIfInBounds_toArray, List.set_cons_zero, List.set_cons_succ]
  refine wpAnyH_take (i := 8) (oi := { dst := Option.some 13, op := Op.convert 22 9 (Operand.tmp 12), type := 9, pos := "ref.go:43", after := #[{ on := 7, ground := Ground.data }], guard := Option.none }) (v := .string X) rfl (by kernel_rfl) (by kernel_rfl) (by kernel_rfl) (fun _ _ _ h => h) (Or.inl ⟨by rfl, ?_⟩) hHeld ?_
  · intro W hSw
    have hv := HV.out _ hSw
    go_simp
  simp only [Act.put, List.setIfInBounds_toArray, List.set_cons_zero, List.set_cons_succ]
  refine wpAnyH_ready (rs := [4]) (by kernel_rfl) (by simp) ?_
  refine AllReadyH.cons (o := { dst := Option.some 9, op := Op.call { callee := Callee.value (Operand.func 77), args := #[Operand.tmp 8], argTypes := #[51] }, type := 9, pos := "ref.go:43", after := #[{ on := 3, ground := Ground.data }], guard := Option.none }) rfl (fun K hK => ?_) AllReadyH.nil
  go_simp
  refine (HD.out _).mono ?_
  rintro y w1 ⟨rfl, rfl⟩
  refine hK.out _ _ hd0 (fun hHeld2 => ?_)
  clear hK K hHeld
  have hHeld := hHeld2
  clear hHeld2
  refine wpAnyH_take (i := 5) (oi := { dst := Option.some 10, op := Op.binOp BinOp.add 9 (Operand.const (Value.string { data := #[98] })) (Operand.tmp 9) 9, type := 9, pos := "ref.go:43", after := #[{ on := 4, ground := Ground.data }], guard := Option.none }) (v := .string ((⟨#[98]⟩ : ByteArray) ++ D)) rfl (by kernel_rfl) (by kernel_rfl) (by kernel_rfl) (fun _ _ _ h => h) (Or.inl ⟨by rfl, ?_⟩) hHeld ?_
  · intro W hSw
    go_simp
  simp only [Act.put, List.setIfInBounds_toArray, List.set_cons_zero, List.set_cons_succ]
  refine wpAnyH_take (i := 6) (oi := { dst := Option.some 11, op := Op.binOp BinOp.add 9 (Operand.tmp 10) (Operand.const (Value.string { data := #[58] })) 9, type := 9, pos := "ref.go:43", after := #[{ on := 5, ground := Ground.data }], guard := Option.none }) (v := .string ((⟨#[98]⟩ : ByteArray) ++ D ++ (⟨#[58]⟩ : ByteArray))) rfl (by kernel_rfl) (by kernel_rfl) (by kernel_rfl) (fun _ _ _ h => h) (Or.inl ⟨by rfl, ?_⟩) hHeld ?_
  · intro W hSw
    go_simp
  simp only [Act.put, List.setIfInBounds_toArray, List.set_cons_zero, List.set_cons_succ]
  refine wpAnyH_take (i := 9) (oi := { dst := Option.some 14, op := Op.binOp BinOp.add 9 (Operand.tmp 11) (Operand.tmp 13) 9, type := 9, pos := "ref.go:43", after := #[{ on := 6, ground := Ground.data }, { on := 8, ground := Ground.data }], guard := Option.none }) (v := .string ((⟨#[98]⟩ : ByteArray) ++ D ++ (⟨#[58]⟩ : ByteArray) ++ X)) rfl (by kernel_rfl) (by kernel_rfl) (by kernel_rfl) (fun _ _ _ h => h) (Or.inl ⟨by rfl, ?_⟩) hHeld ?_
  · intro W hSw
    go_simp
  simp only [Act.put, List.setIfInBounds_toArray, List.set_cons_zero, List.set_cons_succ]
  have HAD := Lib.hid (add_any A n c bs (lBytes xs) w.drew (HM.out.2.1.below hd0) (by have := HM.out.2.2; omega) m HM.out.1)
  rw [HE.out]
  refine wpAnyH_ready (rs := [10]) (by kernel_rfl) (by simp) ?_
  refine AllReadyH.cons (o := { dst := Option.some 15, op := Op.call { callee := Callee.value (Operand.func 76), args := #[Operand.tmp 5, Operand.tmp 14], argTypes := #[22, 9] }, type := 22, pos := "ref.go:43", after := #[{ on := 0, ground := Ground.data }, { on := 9, ground := Ground.data }, { on := 4, ground := Ground.chain }], guard := Option.none }) rfl (fun K hK => ?_) AllReadyH.nil
  go_simp
  refine HAD.out.mono ?_
  rintro y w1 ⟨A1, c1, rfl, hi1, hb1⟩
  have hb2 : Below w.heap.size w w1 := hd0.trans hb1
  refine hK.out _ _ hb2 (fun hHeld2 => ?_)
  clear hK K hHeld
  have hHeld := hHeld2
  clear hHeld2
  have HF := Lib.hid (And.intro hi1 hb2)
  clear hi1 hb1 hb2 hd0
  refine wpAnyH_take (i := 11) (oi := { dst := Option.some 4, op := Op.assign (Operand.tmp 15), type := 22, pos := "ref.go:43", after := #[{ on := 10, ground := Ground.data }, { on := 10, ground := Ground.chain }, { on := 0, ground := Ground.phase }, { on := 1, ground := Ground.phase }, { on := 2, ground := Ground.phase }, { on := 3, ground := Ground.phase }, { on := 4, ground := Ground.phase }, { on := 5, ground := Ground.phase }, { on := 6, ground := Ground.phase }, { on := 7, ground := Ground.phase }, { on := 8, ground := Ground.phase }, { on := 9, ground := Ground.phase }, { on := 10, ground := Ground.phase }], guard := Option.none }) (v := .slice A1 m c1) rfl (by kernel_rfl) (by kernel_rfl) (by kernel_rfl) (fun _ _ _ h => h) (Or.inl ⟨by rfl, ?_⟩) hHeld ?_
  · intro W hSw
    go_simp
  simp only [Act.put, List.setIfInBounds_toArray, List.set_cons_zero, List.set_cons_succ]
  clear hHeld
  refine wpAnyH_done (by kernel_rfl) ?_ _
  go_wp2_with fail
  go_ret
  exact ⟨A1, c1, rfl, HF.out.1, HF.out.2⟩

theorem wrap_u64 (x : Int) : IntKind.u64.wrap x = ((u64 x : Nat) : Int) := by rw [IntKind.wrap_u64]; unfold u64; omega

set_option maxHeartbeats 4000000 in
/-- 'Encode(e)'. -/
theorem RefEncode_any (e : En) (A : Option Addr) (n c : Nat) (w : World) (h : Bys w (.slice A n c) e.data) (hs : n ≤ 1000000000) (m : Nat) (hm : m = (encE e).length) :
    Calls Tryz.prog 51 #[.agg #[.int .i64 e.index, .int .i64 e.term, .int .i64 e.kind, .slice A n c]] w fun x w' => ∃ A1 c1, x = .returned (.slice A1 m c1) ∧ Bys w' (.slice A1 m c1) (encE e) ∧ Below w.heap.size w w' := by
  obtain ⟨W1, g, hW1, hg, hb1, hq, hsz⟩ := one_box w (.cells #[.int .i64 e.index, .int .i64 e.term, .int .i64 e.kind, .slice A n c] 71)
  have HW := Lib.hid (And.intro hW1 hg)
  have HE := Lib.hid (And.intro hb1 hq)
  obtain ⟨u0, hu0⟩ : ∃ u, u = u64 e.index := ⟨_, rfl⟩
  obtain ⟨u1, hu1⟩ : ∃ u, u = u64 e.term := ⟨_, rfl⟩
  obtain ⟨u2, hu2⟩ : ∃ u, u = u64 e.kind := ⟨_, rfl⟩
  have k0 := wrap_u64 e.index
  have k1 := wrap_u64 e.term
  have k2 := wrap_u64 e.kind
  rw [← hu0] at k0
  rw [← hu1] at k1
  rw [← hu2] at k2
  have hl0 : u0 < 18446744073709551616 := by rw [hu0]; exact u64_lt _
  have hl1 : u1 < 18446744073709551616 := by rw [hu1]; exact u64_lt _
  have hl2 : u2 < 18446744073709551616 := by rw [hu2]; exact u64_lt _
  have hlen : ∀ u, u < 18446744073709551616 → (lUint u).length ≤ 22 := fun u hu => by have := decDigits_le u hu; unfold lUint; simp; omega
  obtain ⟨b1, hb1'⟩ : ∃ b, b = [] ++ lUint u0 := ⟨_, rfl⟩
  obtain ⟨b2, hb2'⟩ : ∃ b, b = b1 ++ lUint u1 := ⟨_, rfl⟩
  obtain ⟨b3, hb3'⟩ : ∃ b, b = b2 ++ lUint u2 := ⟨_, rfl⟩
  have hfin : encE e = b3 ++ lBytes e.data := by unfold encE; rw [hb3', hb2', hb1', ← hu0, ← hu1, ← hu2, List.nil_append]
  have hz1 : b1.length ≤ 22 := by rw [hb1', List.nil_append]; exact hlen _ hl0
  have hz2 : b2.length ≤ 44 := by rw [hb2', List.length_append]; have := hlen _ hl1; omega
  have hz3 : b3.length ≤ 66 := by rw [hb3', List.length_append]; have := hlen _ hl2; omega
  obtain ⟨m1, hm1⟩ : ∃ m, m = b1.length := ⟨_, rfl⟩
  obtain ⟨m2, hm2⟩ : ∃ m, m = b2.length := ⟨_, rfl⟩
  obtain ⟨m3, hm3⟩ : ∃ m, m = b3.length := ⟨_, rfl⟩
  have C0 := Lib.hid fun W => RefUint_any none 0 0 u0 hl0 [] W (Bys.nil_ W) (by simp) m1 (by rw [hm1, hb1'])
  have C1 := Lib.hid fun W A c h => RefUint_any A m1 c u1 hl1 b1 W h (by omega) m2 (by rw [hm2, hb2'])
  have C2 := Lib.hid fun W A c h => RefUint_any A m2 c u2 hl2 b2 W h (by omega) m3 (by rw [hm3, hb3'])
  have C3 := Lib.hid fun W A' c' h' h => RefBytes_any A' m3 c' b3 A n c e.data W h' h (by omega) hs m (by rw [hm, hfin])
  rw [← hb1'] at C0
  simp only [← hb2'] at C1
  simp only [← hb3'] at C2
  simp only [← hfin] at C3
  have HN := Lib.hid h
  clear h hs hm hW1 hg hb1 hq hsz hu0 hu1 hu2 hl0 hl1 hl2 hlen hfin hz1 hz2 hz3 hm1 hm2 hm3 hb1' hb2' hb3'
  go_enter Tryz.func51, Tryz.ntmps51
  go_upto_region 1 with fail
  rw [← HW.out.1, ← HW.out.2]
  have hd0 : Below W1.heap.size W1 W1.drew := (Below.refl _ _).drew
  refine wp_region_held_drew (S := fun W => Below W1.heap.size W1 W) (by kernel_rfl) hd0 (fun hHeld => ?_)
  refine wpAnyH_take (i := 0) (oi := { dst := Option.some 3, op := Op.fieldAddr 71 (Operand.tmp 1) 0, type := 0, pos := "ref.go:188", after := #[], guard := Option.none }) (v := .pointer (some ⟨g, 0, none⟩)) rfl (by kernel_rfl) (by kernel_rfl) (by kernel_rfl) (fun _ _ _ h => h) (Or.inl ⟨by rfl, ?_⟩) hHeld ?_
  · intro W hSw
    obtain ⟨z0, z1, z2, z3⟩ := cells4 ((hSw.block g (obj_lt HE.out.2)).trans HE.out.2)
    go_simp
  simp only [Act.put, List.setIfInBounds_toArray, List.set_cons_zero, List.set_cons_succ]
  refine wpAnyH_take (i := 1) (oi := { dst := Option.some 4, op := Op.load 3 (Operand.tmp 3), type := 3, pos := "ref.go:188", after := #[{ on := 0, ground := Ground.data }], guard := Option.none }) (v := .int .i64 e.index) rfl (by kernel_rfl) (by kernel_rfl) (by kernel_rfl) (fun _ _ _ h => h) (Or.inl ⟨by rfl, ?_⟩) hHeld ?_
  · intro W hSw
    obtain ⟨z0, z1, z2, z3⟩ := cells4 ((hSw.block g (obj_lt HE.out.2)).trans HE.out.2)
    go_simp
  simp only [Act.put, List.setIfInBounds_toArray, List.set_cons_zero, List.set_cons_succ]
  refine wpAnyH_take (i := 2) (oi := { dst := Option.some 5, op := Op.convert 3 51 (Operand.tmp 4), type := 51, pos := "ref.go:188", after := #[{ on := 1, ground := Ground.data }], guard := Option.none }) (v := .int .u64 (u0 : Int)) rfl (by kernel_rfl) (by kernel_rfl) (by kernel_rfl) (fun _ _ _ h => h) (Or.inl ⟨by rfl, ?_⟩) hHeld ?_
  · intro W hSw
    obtain ⟨z0, z1, z2, z3⟩ := cells4 ((hSw.block g (obj_lt HE.out.2)).trans HE.out.2)
    go_simp
  simp only [Act.put, List.setIfInBounds_toArray, List.set_cons_zero, List.set_cons_succ]
  refine wpAnyH_take (i := 4) (oi := { dst := Option.some 7, op := Op.fieldAddr 71 (Operand.tmp 1) 1, type := 0, pos := "ref.go:188", after := #[], guard := Option.none }) (v := .pointer (some ⟨g, 1, none⟩)) rfl (by kernel_rfl) (by kernel_rfl) (by kernel_rfl) (fun _ _ _ h => h) (Or.inl ⟨by rfl, ?_⟩) hHeld ?_
  · intro W hSw
    obtain ⟨z0, z1, z2, z3⟩ := cells4 ((hSw.block g (obj_lt HE.out.2)).trans HE.out.2)
    go_simp
  simp only [Act.put, List.setIfInBounds_toArray, List.set_cons_zero, List.set_cons_succ]
  refine wpAnyH_take (i := 5) (oi := { dst := Option.some 8, op := Op.load 3 (Operand.tmp 7), type := 3, pos := "ref.go:188", after := #[{ on := 4, ground := Ground.data }], guard := Option.none }) (v := .int .i64 e.term) rfl (by kernel_rfl) (by kernel_rfl) (by kernel_rfl) (fun _ _ _ h => h) (Or.inl ⟨by rfl, ?_⟩) hHeld ?_
  · intro W hSw
    obtain ⟨z0, z1, z2, z3⟩ := cells4 ((hSw.block g (obj_lt HE.out.2)).trans HE.out.2)
    go_simp
  simp only [Act.put, List.setIfInBounds_toArray, List.set_cons_zero, List.set_cons_succ]
  refine wpAnyH_take (i := 6) (oi := { dst := Option.some 9, op := Op.convert 3 51 (Operand.tmp 8), type := 51, pos := "ref.go:188", after := #[{ on := 5, ground := Ground.data }], guard := Option.none }) (v := .int .u64 (u1 : Int)) rfl (by kernel_rfl) (by kernel_rfl) (by kernel_rfl) (fun _ _ _ h => h) (Or.inl ⟨by rfl, ?_⟩) hHeld ?_
  · intro W hSw
    obtain ⟨z0, z1, z2, z3⟩ := cells4 ((hSw.block g (obj_lt HE.out.2)).trans HE.out.2)
    go_simp
  simp only [Act.put, List.setIfInBounds_toArray, List.set_cons_zero, List.set_cons_succ]
  refine wpAnyH_take (i := 8) (oi := { dst := Option.some 11, op := Op.fieldAddr 71 (Operand.tmp 1) 2, type := 0, pos := "ref.go:188", after := #[], guard := Option.none }) (v := .pointer (some ⟨g, 2, none⟩)) rfl (by kernel_rfl) (by kernel_rfl) (by kernel_rfl) (fun _ _ _ h => h) (Or.inl ⟨by rfl, ?_⟩) hHeld ?_
  · intro W hSw
    obtain ⟨z0, z1, z2, z3⟩ := cells4 ((hSw.block g (obj_lt HE.out.2)).trans HE.out.2)
    go_simp
  simp only [Act.put, List.setIfInBounds_toArray, List.set_cons_zero, List.set_cons_succ]
  refine wpAnyH_take (i := 9) (oi := { dst := Option.some 12, op := Op.load 3 (Operand.tmp 11), type := 3, pos := "ref.go:188", after := #[{ on := 8, ground := Ground.data }], guard := Option.none }) (v := .int .i64 e.kind) rfl (by kernel_rfl) (by kernel_rfl) (by kernel_rfl) (fun _ _ _ h => h) (Or.inl ⟨by rfl, ?_⟩) hHeld ?_
  · intro W hSw
    obtain ⟨z0, z1, z2, z3⟩ := cells4 ((hSw.block g (obj_lt HE.out.2)).trans HE.out.2)
    go_simp
  simp only [Act.put, List.setIfInBounds_toArray, List.set_cons_zero, List.set_cons_succ]
  refine wpAnyH_take (i := 10) (oi := { dst := Option.some 13, op := Op.convert 3 51 (Operand.tmp 12), type := 51, pos := "ref.go:188", after := #[{ on := 9, ground := Ground.data }], guard := Option.none }) (v := .int .u64 (u2 : Int)) rfl (by kernel_rfl) (by kernel_rfl) (by kernel_rfl) (fun _ _ _ h => h) (Or.inl ⟨by rfl, ?_⟩) hHeld ?_
  · intro W hSw
    obtain ⟨z0, z1, z2, z3⟩ := cells4 ((hSw.block g (obj_lt HE.out.2)).trans HE.out.2)
    go_simp
  simp only [Act.put, List.setIfInBounds_toArray, List.set_cons_zero, List.set_cons_succ]
  refine wpAnyH_take (i := 12) (oi := { dst := Option.some 15, op := Op.fieldAddr 71 (Operand.tmp 1) 3, type := 0, pos := "ref.go:188", after := #[], guard := Option.none }) (v := .pointer (some ⟨g, 3, none⟩)) rfl (by kernel_rfl) (by kernel_rfl) (by kernel_rfl) (fun _ _ _ h => h) (Or.inl ⟨by rfl, ?_⟩) hHeld ?_
  · intro W hSw
    obtain ⟨z0, z1, z2, z3⟩ := cells4 ((hSw.block g (obj_lt HE.out.2)).trans HE.out.2)
    go_simp
  simp only [Act.put, List.setIfInBounds_toArray, List.set_cons_zero, List.set_cons_succ]
  refine wpAnyH_take (i := 13) (oi := { dst := Option.some 16, op := Op.load 22 (Operand.tmp 15), type := 22, pos := "ref.go:188", after := #[{ on := 12, ground := Ground.data }], guard := Option.none }) (v := .slice A n c) rfl (by kernel_rfl) (by kernel_rfl) (by kernel_rfl) (fun _ _ _ h => h) (Or.inl ⟨by rfl, ?_⟩) hHeld ?_
  · intro W hSw
    obtain ⟨z0, z1, z2, z3⟩ := cells4 ((hSw.block g (obj_lt HE.out.2)).trans HE.out.2)
    go_simp
  simp only [Act.put, List.setIfInBounds_toArray, List.set_cons_zero, List.set_cons_succ]
  clear k0 k1 k2
  refine wpAnyH_ready (rs := [3]) (by kernel_rfl) (by simp) ?_
  refine AllReadyH.cons (o := { dst := Option.some 6, op := Op.call { callee := Callee.value (Operand.func 48), args := #[Operand.const (Value.slice Option.none 0 0), Operand.tmp 5], argTypes := #[22, 51] }, type := 22, pos := "ref.go:188", after := #[{ on := 2, ground := Ground.data }], guard := Option.none }) rfl (fun K hK => ?_) AllReadyH.nil
  go_simp
  refine (C0.out _).mono ?_
  rintro y w1 ⟨A1, c1, rfl, hi1, hb1⟩
  have hb1 : Below W1.heap.size W1 w1 := hd0.trans hb1
  refine hK.out _ _ hb1 (fun hHeld2 => ?_)
  clear hK K hHeld
  have hHeld := hHeld2
  clear hHeld2
  have H1 := Lib.hid (And.intro hi1 hb1)
  clear hi1 hb1 hd0
  refine wpAnyH_ready (rs := [7]) (by kernel_rfl) (by simp) ?_
  refine AllReadyH.cons (o := { dst := Option.some 10, op := Op.call { callee := Callee.value (Operand.func 48), args := #[Operand.tmp 6, Operand.tmp 9], argTypes := #[22, 51] }, type := 22, pos := "ref.go:188", after := #[{ on := 3, ground := Ground.data }, { on := 6, ground := Ground.data }, { on := 3, ground := Ground.chain }], guard := Option.none }) rfl (fun K hK => ?_) AllReadyH.nil
  go_simp
  refine (C1.out _ _ _ H1.out.1).mono ?_
  rintro y w2 ⟨A2, c2, rfl, hi2, hb2⟩
  have hb2 : Below W1.heap.size W1 w2 := H1.out.2.trans (hb2.mono H1.out.2.size)
  refine hK.out _ _ hb2 (fun hHeld2 => ?_)
  clear hK K hHeld
  have hHeld := hHeld2
  clear hHeld2
  have H2 := Lib.hid (And.intro hi2 hb2)
  clear hi2 hb2
  refine wpAnyH_ready (rs := [11]) (by kernel_rfl) (by simp) ?_
  refine AllReadyH.cons (o := { dst := Option.some 14, op := Op.call { callee := Callee.value (Operand.func 48), args := #[Operand.tmp 10, Operand.tmp 13], argTypes := #[22, 51] }, type := 22, pos := "ref.go:188", after := #[{ on := 7, ground := Ground.data }, { on := 10, ground := Ground.data }, { on := 7, ground := Ground.chain }], guard := Option.none }) rfl (fun K hK => ?_) AllReadyH.nil
  go_simp
  refine (C2.out _ _ _ H2.out.1).mono ?_
  rintro y w3 ⟨A3, c3, rfl, hi3, hb3⟩
  have hb3 : Below W1.heap.size W1 w3 := H2.out.2.trans (hb3.mono H2.out.2.size)
  refine hK.out _ _ hb3 (fun hHeld2 => ?_)
  clear hK K hHeld
  have hHeld := hHeld2
  clear hHeld2
  have H3 := Lib.hid (And.intro hi3 hb3)
  clear hi3 hb3
  refine wpAnyH_ready (rs := [14]) (by kernel_rfl) (by simp) ?_
  refine AllReadyH.cons (o := { dst := Option.some 17, op := Op.call { callee := Callee.value (Operand.func 49), args := #[Operand.tmp 14, Operand.tmp 16], argTypes := #[22, 22] }, type := 22, pos := "ref.go:188", after := #[{ on := 11, ground := Ground.data }, { on := 13, ground := Ground.data }, { on := 11, ground := Ground.chain }], guard := Option.none }) rfl (fun K hK => ?_) AllReadyH.nil
  go_simp
  refine (C3.out _ _ _ H3.out.1 (HN.out.below (HE.out.1.trans (H3.out.2.mono HE.out.1.size)))).mono ?_
  rintro y w4 ⟨A4, c4, rfl, hi4, hb4⟩
  have hb4 : Below W1.heap.size W1 w4 := H3.out.2.trans (hb4.mono H3.out.2.size)
  refine hK.out _ _ hb4 (fun hHeld2 => ?_)
  clear hK K hHeld
  have hHeld := hHeld2
  clear hHeld2
  have H4 := Lib.hid (And.intro hi4 hb4)
  clear hi4 hb4
  refine wpAnyH_take (i := 15) (oi := { dst := Option.some 2, op := Op.assign (Operand.tmp 17), type := 22, pos := "ref.go:188", after := #[{ on := 14, ground := Ground.data }, { on := 14, ground := Ground.chain }, { on := 0, ground := Ground.phase }, { on := 1, ground := Ground.phase }, { on := 2, ground := Ground.phase }, { on := 3, ground := Ground.phase }, { on := 4, ground := Ground.phase }, { on := 5, ground := Ground.phase }, { on := 6, ground := Ground.phase }, { on := 7, ground := Ground.phase }, { on := 8, ground := Ground.phase }, { on := 9, ground := Ground.phase }, { on := 10, ground := Ground.phase }, { on := 11, ground := Ground.phase }, { on := 12, ground := Ground.phase }, { on := 13, ground := Ground.phase }, { on := 14, ground := Ground.phase }], guard := Option.none }) (v := .slice A4 m c4) rfl (by kernel_rfl) (by kernel_rfl) (by kernel_rfl) (fun _ _ _ h => h) (Or.inl ⟨by rfl, ?_⟩) hHeld ?_
  · intro W hSw
    go_simp
  simp only [Act.put, List.setIfInBounds_toArray, List.set_cons_zero, List.set_cons_succ]
  clear hHeld
  refine wpAnyH_done (by kernel_rfl) ?_ _
  go_wp2_with fail
  go_ret
  exact ⟨A4, c4, rfl, H4.out.1, HE.out.1.trans (H4.out.2.mono HE.out.1.size)⟩

set_option maxHeartbeats 1000000 in
/-- 'Bool(b, is)'. -/
theorem RefBool_any (A : Option Addr) (n c : Nat) (bs : List UInt8) (is : Bool) (w : World) (h : Bys w (.slice A n c) bs) (hl : bs.length + 1 ≤ 140737488355328) (m : Nat) (hm : m = (bs ++ lBool is).length) :
    Calls Tryz.prog 50 #[.slice A n c, .bool is] w fun x w' => ∃ A1 c1, x = .returned (.slice A1 m c1) ∧ Bys w' (.slice A1 m c1) (bs ++ lBool is) ∧ Below w.heap.size w w' := by
  have HA := Lib.hid (add_any A n c bs (lBool is) w h (by unfold lBool; simpa using hl) m hm)
  cases is with
  | true =>
    have e1 : (⟨(lBool true).toArray⟩ : ByteArray) = ⟨#[121]⟩ := rfl
    rw [e1] at HA
    clear h hl hm e1
    go_enter Tryz.func50, Tryz.ntmps50
    go_wp2_with (go_at_call 76; go_must (refine HA.out.mono ?_; rintro y w1 ⟨A1, c1, rfl, hi, hb⟩; have H1 := Lib.hid (And.intro hi hb); clear hi hb))
    go_ret
    exact ⟨A1, c1, rfl, H1.out.1, H1.out.2⟩
  | false =>
    have e1 : (⟨(lBool false).toArray⟩ : ByteArray) = ⟨#[122]⟩ := rfl
    rw [e1] at HA
    clear h hl hm e1
    go_enter Tryz.func50, Tryz.ntmps50
    go_wp2_with (go_at_call 76; go_must (refine HA.out.mono ?_; rintro y w1 ⟨A1, c1, rfl, hi, hb⟩; have H1 := Lib.hid (And.intro hi hb); clear hi hb))
    go_ret
    exact ⟨A1, c1, rfl, H1.out.1, H1.out.2⟩

end Go.Proofs.YtfblgkcipnkhaaaGreatDoor.pk
