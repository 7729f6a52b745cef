import Derived.Test.YtncaefocijainaaGreatDoorG22
import Derived.Test.YtncaefocijainaaGreatDoorG27
import Derived.Lib.AppendStr
import Derived.Deep.Strs
import Derived.Test.YtncaefocijainaaGreatDoorG13
namespace Go.Proofs.YtncaefocijainaaGreatDoor.pk
open Go Go.RowKit
set_option maxRecDepth 100000
section
theorem decDigits_step (m : Nat) : Lib.decDigits m = (if m / 10 = 0 then [] else Lib.decDigits (m / 10)) ++ [UInt8.ofNat (48 + m % 10)] := by
 by_cases h : m < 10
 · rw [Lib.decDigits, dif_pos h, if_pos (by omega), show m % 10 = m from by omega]; rfl
 · rw [Lib.decDigits, dif_neg h, if_neg (by omega)]
theorem dig_piece : ∀ r, r < 10 → (⟨#[48, 49, 50, 51, 52, 53, 54, 55, 56, 57]⟩ : ByteArray).extract r (r + 1) = ⟨#[UInt8.ofNat (48 + r)]⟩ := by
 intro r hr
 have : r = 0 ∨ r = 1 ∨ r = 2 ∨ r = 3 ∨ r = 4 ∨ r = 5 ∨ r = 6 ∨ r = 7 ∨ r = 8 ∨ r = 9 := by omega
 rcases this with rfl | rfl | rfl | rfl | rfl | rfl | rfl | rfl | rfl | rfl <;> rfl
theorem dig_cons (r : Nat) (hr : r < 10) (l : List UInt8) : (⟨#[48, 49, 50, 51, 52, 53, 54, 55, 56, 57]⟩ : ByteArray).extract r (r + 1) ++ (⟨l.toArray⟩ : ByteArray) = ⟨(UInt8.ofNat (48 + r) :: l).toArray⟩ := by
 rw [dig_piece r hr]
 apply ByteArray.ext
 simp
theorem decDigits_le (u : Nat) (hu : u < 18446744073709551616) : (Lib.decDigits u).length ≤ 20 := by rw [Lib.decDigits_length]; exact Lib.nDigits_le20 u hu
theorem Digits_any (u : Nat) (hu : u < 18446744073709551616) (w : World) :
   Calls Tryz.prog 83 #[.int .u64 (u : Int)] w fun x w' => x = .returned (.string ⟨(Lib.decDigits u).toArray⟩) ∧ w' = w := by
 go_enter Tryz.func83, Tryz.ntmps83
 go_wp2
 go_loop [0, 3] (fun nn ss => ∃ (m : Nat) (l : List UInt8), m ≤ u ∧ nn = .int .u64 (m : Int) ∧ ss = .string ⟨l.toArray⟩ ∧ Hid ((l = [] ∧ m = u) ∨ (l ≠ [] ∧ Lib.decDigits u = (if m = 0 then [] else Lib.decDigits m) ++ l)))
   (fun nn ss => (intOf nn).toNat + (match ss with | .string s => if s.size = 0 then 1 else 0 | _ => 0))
 case atStart => exact ⟨u, [], Nat.le_refl _, rfl, rfl, jI (Or.inl ⟨rfl, rfl⟩)⟩
 case round =>
   obtain ⟨m, l, hm, rfl, rfl, HR⟩ := hrel
   have hl20 : l.length ≤ 20 := by
     rcases HR.out with ⟨rfl, _⟩ | ⟨_, h⟩
     · simp
     · have h1 := decDigits_le u hu
       rw [h, List.length_append] at h1
       omega
   by_cases hm0 : m = 0
   · subst hm0
     by_cases hl : l = []
     · subst hl
       have hu0 : u = 0 := by
         rcases HR.out with ⟨_, h⟩ | ⟨h, _⟩
         · exact h.symm
         · exact absurd rfl h
       have hpc := dig_cons 0 (by omega) []
       have HPC := jI hpc
       clear hpc
       go_wp2
       go_round
       case rel =>
         refine ⟨0, [48], by omega, rfl, ?_, jI (Or.inr ⟨by simp, ?_⟩)⟩
         · exact congrArg Value.string HPC.out
         · rw [hu0, Lib.decDigits_one (by omega)]; simp
       case measure => decide
     · have hz : (l == []) = false := by simpa using hl
       have hres : Lib.decDigits u = l := by
         rcases HR.out with ⟨h, _⟩ | ⟨_, h⟩
         · exact absurd h hl
         · simpa using h
       rw [hres]
       clear HR
       go_wp2
       go_ret
       exact ⟨rfl, rfl⟩
   · have hpc := dig_cons (m % 10) (by omega) l
     have HPC := jI hpc
     have hmp : (0 : Int) < (m : Int) := by omega
     have hb10 : (m : Int) % 10 + 1 ≤ 10 := by omega
     have hmn : min (m % 10 + 1) 10 - m % 10 + l.length ≤ 9223372036854775807 := by omega
     clear hpc
     go_wp2
     go_round
     case rel =>
       refine ⟨m / 10, UInt8.ofNat (48 + m % 10) :: l, by omega, ?_, ?_, jI (Or.inr ⟨by simp, ?_⟩)⟩
       · rfl
       · exact congrArg Value.string HPC.out
       · have h1 : Lib.decDigits u = Lib.decDigits m ++ l := by
           rcases HR.out with ⟨h2, h3⟩ | ⟨_, h3⟩
           · rw [h2, h3, List.append_nil]
           · rw [h3, if_neg hm0]
         rw [h1, decDigits_step m]
         simp
     case measure =>
       rw [HPC.out]
       have e1 : (⟨(UInt8.ofNat (48 + m % 10) :: l).toArray⟩ : ByteArray).size ≠ 0 := by simp [ByteArray.size]
       show ((m : Int) / 10).toNat + (if (⟨(UInt8.ofNat (48 + m % 10) :: l).toArray⟩ : ByteArray).size = 0 then 1 else 0) < (m : Int).toNat + _
       rw [if_neg e1]
       omega
theorem strCells_mk (l : List UInt8) : Lib.strCells ⟨l.toArray⟩ = Lib.byteCells l := by
 simp [Lib.strCells, Lib.byteCells]
theorem add_any (A : Option Addr) (n c : Nat) (bs l : List UInt8) (w : World) (h : Bys w (.slice A n c) bs) (hl : bs.length + l.length ≤ 140737488355328) (m : Nat) (hm : m = (bs ++ l).length) :
   Calls Tryz.prog 82 #[.slice A n c, .string ⟨l.toArray⟩] w fun x w' => ∃ A1 c1, x = .returned (.slice A1 m c1) ∧ Bys w' (.slice A1 m c1) (bs ++ l) ∧ Below w.heap.size w w' := by
 obtain ⟨i0, hi, hz0, hz1, hz2⟩ := info_parts info_u8
 have H := jI h.sl_
 have hsz : (⟨l.toArray⟩ : ByteArray).size = l.length := by simp [ByteArray.size]
 have hsc := jI (strCells_mk l)
 generalize (⟨l.toArray⟩ : ByteArray) = S at hsz hsc
 have HSZ := jI (jA hsz hm)
 clear h hsz hm
 go_enter Tryz.func82, Tryz.ntmps82
 go_wp2_with (at_builtin; first
   | (refine Lib.wpList_append_own_string _ rfl _ _ 33 9 rfl w.heap.size 5 i0 Tryz.underlying33 Tryz.underlying9 hi hz0 hz1 hz2 _ _ _ rfl HO.out S rfl (by simp only [maxLen]; have := HSZ.out.1; omega) (by have := HSZ.out.1; omega) HB1.out.size ?_; intro v2 w2 hown2 hgrow2 _; have HO2 := jI hown2; have HB2 := jI (HB1.out.grown hgrow2 HB1.out.size (fun k hk => (HO.out.lt k hk).1)); clear hown2 hgrow2)
   | (refine wpList_append_sl rfl _ _ 33 rfl w.heap.size 5 i0 _ Tryz.underlying33 hi hz0 hz1 hz2 rfl (.slice none 0 0) 0 [] rfl (World.ownsRow_nil _ _ _ _) w.heap.size A n c bs rfl H.out (by omega) (Nat.le_refl _) ?_; intro v1 w1 hown hgrow; have HO := jI hown; have HB1 := jI ((Below.refl w.heap.size w).grown hgrow (Nat.le_refl _) (by simp [Value.ownBlock])); clear hown hgrow))
 go_ret
 have hO2 := HO2.out
 rw [hsc.out] at hO2
 have e1 : (bs ++ l).length = 0 + bs.length + S.size := by rw [List.length_append, HSZ.out.1]; omega
 have e2 : Lib.byteCells (bs ++ l) = [] ++ Lib.byteCells bs ++ Lib.byteCells l := by simp [Lib.byteCells]
 have hO3 : w2.ownsRow w.heap.size 5 1 v2 (bs ++ l).length (Lib.byteCells (bs ++ l)) := by rw [e1, e2]; exact hO2
 obtain ⟨A1, c1, hv, -, -⟩ := (Bys.of_own hO3).form
 have hb := Bys.of_own hO3
 rw [hv, ← HSZ.out.2] at hb
 rw [← HSZ.out.2] at hv
 subst hv
 exact ⟨A1, c1, rfl, hb, HB2.out⟩
theorem catStr (a b : List UInt8) : (⟨a.toArray⟩ : ByteArray) ++ (⟨b.toArray⟩ : ByteArray) = ⟨(a ++ b).toArray⟩ := by
 apply ByteArray.ext
 simp
theorem RefUint_any (A : Option Addr) (n c u : Nat) (hu : u < 18446744073709551616) (bs : List UInt8) (w : World) (h : Bys w (.slice A n c) bs) (hl : bs.length + 22 ≤ 140737488355328) (m : Nat) (hm : m = (bs ++ lUint u).length) :
   Calls Tryz.prog 41 #[.slice A n c, .int .u64 (u : Int)] w fun x w' => ∃ A1 c1, x = .returned (.slice A1 m c1) ∧ Bys w' (.slice A1 m c1) (bs ++ lUint u) ∧ Below w.heap.size w w' := by
 have H := jI h
 have hd := decDigits_le u hu
 have e1 : (⟨#[110]⟩ : ByteArray) ++ (⟨(Lib.decDigits u).toArray⟩ : ByteArray) ++ (⟨#[59]⟩ : ByteArray) = ⟨(lUint u).toArray⟩ := by
   rw [show (⟨#[110]⟩ : ByteArray) = ⟨[110].toArray⟩ from rfl, show (⟨#[59]⟩ : ByteArray) = ⟨[59].toArray⟩ from rfl, catStr, catStr]; rfl
 have hlen : (lUint u).length ≤ 22 := by unfold lUint; simp; omega
 have hsz : (⟨(Lib.decDigits u).toArray⟩ : ByteArray).size ≤ 20 := by simpa [ByteArray.size] using hd
 have HE := jI e1
 have HD := jI (Digits_any u hu w)
 generalize (⟨(Lib.decDigits u).toArray⟩ : ByteArray) = D at hsz HE HD
 have HM := jI hm
 clear h hd e1 hm
 go_enter Tryz.func41, Tryz.ntmps41
 go_wp2_with (first
   | (go_at_call 83; refine HD.out.mono ?_; rintro x w' ⟨rfl, rfl⟩))
 rw [HE.out]
 refine (add_any A n c bs (lUint u) _ H.out (by omega) m HM.out).mono ?_
 rintro x w2 ⟨A1, c1, rfl, hO, hB⟩
 have HO := jI hO
 have HB := jI hB
 clear hO hB
 go_wp2
 go_ret
 exact ⟨A1, c1, rfl, HO.out, HB.out⟩
set_option maxHeartbeats 4000000 in
theorem RefBytes_any (A : Option Addr) (n c : Nat) (bs : List UInt8) (A' : Option Addr) (n' c' : Nat) (xs : List UInt8) (w : World) (h : Bys w (.slice A n c) bs) (h' : Bys w (.slice A' n' c') xs) (hl : bs.length ≤ 1000000000) (hl' : n' ≤ 1000000000) (m : Nat) (hm : m = (bs ++ lBytes xs).length) :
   Calls Tryz.prog 42 #[.slice A n c, .slice A' n' c'] w fun x w' => ∃ A1 c1, x = .returned (.slice A1 m c1) ∧ Bys w' (.slice A1 m c1) (bs ++ lBytes xs) ∧ Below w.heap.size w w' := by
 have hn := h'.len_
 have hd := decDigits_le n' (by omega)
 have e1 : (⟨#[98]⟩ : ByteArray) ++ (⟨(Lib.decDigits n').toArray⟩ : ByteArray) ++ (⟨#[58]⟩ : ByteArray) ++ (⟨xs.toArray⟩ : ByteArray) = ⟨(lBytes xs).toArray⟩ := by
   rw [show (⟨#[98]⟩ : ByteArray) = ⟨[98].toArray⟩ from rfl, show (⟨#[58]⟩ : ByteArray) = ⟨[58].toArray⟩ from rfl, catStr, catStr, catStr]
   unfold lBytes lHead; rw [← hn]; simp
 have hlen : (lBytes xs).length ≤ 22 + n' := by unfold lBytes lHead; rw [← hn]; simp; omega
 have hsz : (⟨(Lib.decDigits n').toArray⟩ : ByteArray).size ≤ 20 := by simpa [ByteArray.size] using hd
 have hsx : (⟨xs.toArray⟩ : ByteArray).size ≤ 1000000000 := by simp [ByteArray.size]; omega
 have HE := jI e1
 have HD := jI fun W => Digits_any n' (by omega) W
 have HV := jI fun W (hW : Below w.heap.size w W) => conv_bytes (h'.below hW).sl_
 generalize (⟨(Lib.decDigits n').toArray⟩ : ByteArray) = D at hsz HE HD
 generalize (⟨xs.toArray⟩ : ByteArray) = X at hsx HE HV
 have HM := jI (jA hm (jA h hlen))
 have hn2 : (n' : Int) ≤ 1000000000 := by omega
 have hwu : IntKind.u64.wrap (n' : Int) = (n' : Int) := by rw [IntKind.wrap_u64]; omega
 clear h h' hd e1 hm hlen hn
 go_enter Tryz.func42, Tryz.ntmps42
 go_upto_region 1 with fail
 have hd0 : Below w.heap.size w w.drew := (Below.refl _ _).drew
 have t1 : 1 + D.size ≤ 9223372036854775807 := by omega
 have t2 : 1 + D.size ≤ 9223372036854775806 := by omega
 have t3 : 1 + D.size + 1 + X.size ≤ 9223372036854775807 := by omega
 refine wp_region_held_drew (S := fun W => Below w.heap.size w W) (by kernel_rfl) hd0 (fun hHeld => ?_)
 refine wpAnyH_take (i := 0) (oi := { dst := Option.some 5, op := Op.move (Operand.tmp 0), type := 33, pos := "ref.go:43", after := #[], guard := Option.none }) (v := .slice A n c) rfl (by kernel_rfl) (by kernel_rfl) (by kernel_rfl) (fun _ _ _ h => h) (Or.inl ⟨by rfl, ?_⟩) hHeld ?_
 · intro W hSw
   go_simp
 simp only [Act.put, qA, qB, qC]
 refine wpAnyH_take (i := 1) (oi := { dst := Option.some 6, op := Op.move (Operand.tmp 1), type := 33, pos := "ref.go:43", after := #[], guard := Option.none }) (v := .slice A' n' c') rfl (by kernel_rfl) (by kernel_rfl) (by kernel_rfl) (fun _ _ _ h => h) (Or.inl ⟨by rfl, ?_⟩) hHeld ?_
 · intro W hSw
   go_simp
 simp only [Act.put, qA, qB, qC]
 refine wpAnyH_take (i := 2) (oi := { dst := Option.some 7, op := Op.call { callee := Callee.builtin Builtin.len, args := #[Operand.tmp 6], argTypes := #[33] }, type := 3, pos := "ref.go:43", after := #[{ on := 1, ground := Ground.data }], guard := Option.none }) (v := .int .i64 (n' : Int)) rfl (by kernel_rfl) (by kernel_rfl) (by kernel_rfl) (fun _ _ _ h => h) (Or.inl ⟨by rfl, ?_⟩) hHeld ?_
 · intro W hSw
   go_simp
 simp only [Act.put, qA, qB, qC]
 refine wpAnyH_take (i := 3) (oi := { dst := Option.some 8, op := Op.convert 3 91 (Operand.tmp 7), type := 91, pos := "ref.go:43", after := #[{ on := 2, ground := Ground.data }], guard := Option.none }) (v := .int .u64 (n' : Int)) rfl (by kernel_rfl) (by kernel_rfl) (by kernel_rfl) (fun _ _ _ h => h) (Or.inl ⟨by rfl, ?_⟩) hHeld ?_
 · intro W hSw
   go_simp
 simp only [Act.put, qA, qB, qC]
 refine wpAnyH_take (i := 7) (oi := { dst := Option.some 12, op := Op.move (Operand.tmp 1), type := 33, pos := "ref.go:43", after := #[], guard := Option.none }) (v := .slice A' n' c') rfl (by kernel_rfl) (by kernel_rfl) (by kernel_rfl) (fun _ _ _ h => h) (Or.inl ⟨by rfl, ?_⟩) hHeld ?_
 · intro W hSw
   go_simp
 simp only [Act.put, qA, qB, qC]
 refine wpAnyH_take (i := 8) (oi := { dst := Option.some 13, op := Op.convert 33 9 (Operand.tmp 12), type := 9, pos := "ref.go:43", after := #[{ on := 7, ground := Ground.data }], guard := Option.none }) (v := .string X) rfl (by kernel_rfl) (by kernel_rfl) (by kernel_rfl) (fun _ _ _ h => h) (Or.inl ⟨by rfl, ?_⟩) hHeld ?_
 · intro W hSw
   have hv := HV.out _ hSw
   go_simp
 simp only [Act.put, qA, qB, qC]
 refine wpAnyH_ready (rs := [4]) (by kernel_rfl) (by simp) ?_
 refine AllReadyH.cons (o := { dst := Option.some 9, op := Op.call { callee := Callee.value (Operand.func 83), args := #[Operand.tmp 8], argTypes := #[91] }, type := 9, pos := "ref.go:43", after := #[{ on := 3, ground := Ground.data }], guard := Option.none }) rfl (fun K hK => ?_) AllReadyH.nil
 go_simp
 refine (HD.out _).mono ?_
 rintro y w1 ⟨rfl, rfl⟩
 refine hK.out _ _ hd0 (fun hHeld2 => ?_)
 clear hK K hHeld
 have hHeld := hHeld2
 clear hHeld2
 refine wpAnyH_take (i := 5) (oi := { dst := Option.some 10, op := Op.binOp BinOp.add 9 (Operand.const (Value.string { data := #[98] })) (Operand.tmp 9) 9, type := 9, pos := "ref.go:43", after := #[{ on := 4, ground := Ground.data }], guard := Option.none }) (v := .string ((⟨#[98]⟩ : ByteArray) ++ D)) rfl (by kernel_rfl) (by kernel_rfl) (by kernel_rfl) (fun _ _ _ h => h) (Or.inl ⟨by rfl, ?_⟩) hHeld ?_
 · intro W hSw
   go_simp
 simp only [Act.put, qA, qB, qC]
 refine wpAnyH_take (i := 6) (oi := { dst := Option.some 11, op := Op.binOp BinOp.add 9 (Operand.tmp 10) (Operand.const (Value.string { data := #[58] })) 9, type := 9, pos := "ref.go:43", after := #[{ on := 5, ground := Ground.data }], guard := Option.none }) (v := .string ((⟨#[98]⟩ : ByteArray) ++ D ++ (⟨#[58]⟩ : ByteArray))) rfl (by kernel_rfl) (by kernel_rfl) (by kernel_rfl) (fun _ _ _ h => h) (Or.inl ⟨by rfl, ?_⟩) hHeld ?_
 · intro W hSw
   go_simp
 simp only [Act.put, qA, qB, qC]
 refine wpAnyH_take (i := 9) (oi := { dst := Option.some 14, op := Op.binOp BinOp.add 9 (Operand.tmp 11) (Operand.tmp 13) 9, type := 9, pos := "ref.go:43", after := #[{ on := 6, ground := Ground.data }, { on := 8, ground := Ground.data }], guard := Option.none }) (v := .string ((⟨#[98]⟩ : ByteArray) ++ D ++ (⟨#[58]⟩ : ByteArray) ++ X)) rfl (by kernel_rfl) (by kernel_rfl) (by kernel_rfl) (fun _ _ _ h => h) (Or.inl ⟨by rfl, ?_⟩) hHeld ?_
 · intro W hSw
   go_simp
 simp only [Act.put, qA, qB, qC]
 have HAD := jI (add_any A n c bs (lBytes xs) w.drew (HM.out.2.1.below hd0) (by have := HM.out.2.2; omega) m HM.out.1)
 rw [HE.out]
 refine wpAnyH_ready (rs := [10]) (by kernel_rfl) (by simp) ?_
 refine AllReadyH.cons (o := { dst := Option.some 15, op := Op.call { callee := Callee.value (Operand.func 82), args := #[Operand.tmp 5, Operand.tmp 14], argTypes := #[33, 9] }, type := 33, pos := "ref.go:43", after := #[{ on := 0, ground := Ground.data }, { on := 9, ground := Ground.data }, { on := 4, ground := Ground.chain }], guard := Option.none }) rfl (fun K hK => ?_) AllReadyH.nil
 go_simp
 refine HAD.out.mono ?_
 rintro y w1 ⟨A1, c1, rfl, hi1, hb1⟩
 have hb2 : Below w.heap.size w w1 := hd0.trans hb1
 refine hK.out _ _ hb2 (fun hHeld2 => ?_)
 clear hK K hHeld
 have hHeld := hHeld2
 clear hHeld2
 have HF := jI (jA hi1 hb2)
 clear hi1 hb1 hb2 hd0
 refine wpAnyH_take (i := 11) (oi := { dst := Option.some 4, op := Op.assign (Operand.tmp 15), type := 33, pos := "ref.go:43", after := #[{ on := 10, ground := Ground.data }, { on := 10, ground := Ground.chain }, { on := 0, ground := Ground.phase }, { on := 1, ground := Ground.phase }, { on := 2, ground := Ground.phase }, { on := 3, ground := Ground.phase }, { on := 4, ground := Ground.phase }, { on := 5, ground := Ground.phase }, { on := 6, ground := Ground.phase }, { on := 7, ground := Ground.phase }, { on := 8, ground := Ground.phase }, { on := 9, ground := Ground.phase }, { on := 10, ground := Ground.phase }], guard := Option.none }) (v := .slice A1 m c1) rfl (by kernel_rfl) (by kernel_rfl) (by kernel_rfl) (fun _ _ _ h => h) (Or.inl ⟨by rfl, ?_⟩) hHeld ?_
 · intro W hSw
   go_simp
 simp only [Act.put, qA, qB, qC]
 clear hHeld
 refine wpAnyH_done (by kernel_rfl) ?_ _
 go_wp2_with fail
 go_ret
 exact ⟨A1, c1, rfl, HF.out.1, HF.out.2⟩
theorem wrap_u64 (x : Int) : IntKind.u64.wrap x = ((u64 x : Nat) : Int) := by rw [IntKind.wrap_u64]; unfold u64; omega
set_option maxHeartbeats 4000000 in
theorem RefEncode_any (e : En) (A : Option Addr) (n c : Nat) (w : World) (h : Bys w (.slice A n c) e.data) (hs : n ≤ 1000000000) (m : Nat) (hm : m = (encE e).length) :
   Calls Tryz.prog 44 #[.agg #[.int .i64 e.index, .int .i64 e.term, .int .i64 e.kind, .slice A n c]] w fun x w' => ∃ A1 c1, x = .returned (.slice A1 m c1) ∧ Bys w' (.slice A1 m c1) (encE e) ∧ Below w.heap.size w w' := by
 obtain ⟨W1, g, hW1, hg, hb1, hq, hsz⟩ := one_box w (.cells #[.int .i64 e.index, .int .i64 e.term, .int .i64 e.kind, .slice A n c] 96)
 have HW := jI (jA hW1 hg)
 have HE := jI (jA hb1 hq)
 obtain ⟨u0, hu0⟩ : ∃ u, u = u64 e.index := ⟨_, rfl⟩
 obtain ⟨u1, hu1⟩ : ∃ u, u = u64 e.term := ⟨_, rfl⟩
 obtain ⟨u2, hu2⟩ : ∃ u, u = u64 e.kind := ⟨_, rfl⟩
 have k0 := wrap_u64 e.index
 have k1 := wrap_u64 e.term
 have k2 := wrap_u64 e.kind
 rw [← hu0] at k0
 rw [← hu1] at k1
 rw [← hu2] at k2
 have hl0 : u0 < 18446744073709551616 := by rw [hu0]; exact u64_lt _
 have hl1 : u1 < 18446744073709551616 := by rw [hu1]; exact u64_lt _
 have hl2 : u2 < 18446744073709551616 := by rw [hu2]; exact u64_lt _
 have hlen : ∀ u, u < 18446744073709551616 → (lUint u).length ≤ 22 := fun u hu => by have := decDigits_le u hu; unfold lUint; simp; omega
 obtain ⟨b1, hb1'⟩ : ∃ b, b = [] ++ lUint u0 := ⟨_, rfl⟩
 obtain ⟨b2, hb2'⟩ : ∃ b, b = b1 ++ lUint u1 := ⟨_, rfl⟩
 obtain ⟨b3, hb3'⟩ : ∃ b, b = b2 ++ lUint u2 := ⟨_, rfl⟩
 have hfin : encE e = b3 ++ lBytes e.data := by unfold encE; rw [hb3', hb2', hb1', ← hu0, ← hu1, ← hu2, List.nil_append]
 have hz1 : b1.length ≤ 22 := by rw [hb1', List.nil_append]; exact hlen _ hl0
 have hz2 : b2.length ≤ 44 := by rw [hb2', List.length_append]; have := hlen _ hl1; omega
 have hz3 : b3.length ≤ 66 := by rw [hb3', List.length_append]; have := hlen _ hl2; omega
 obtain ⟨m1, hm1⟩ : ∃ m, m = b1.length := ⟨_, rfl⟩
 obtain ⟨m2, hm2⟩ : ∃ m, m = b2.length := ⟨_, rfl⟩
 obtain ⟨m3, hm3⟩ : ∃ m, m = b3.length := ⟨_, rfl⟩
 have C0 := jI fun W => RefUint_any none 0 0 u0 hl0 [] W (Bys.nil_ W) (by simp) m1 (by rw [hm1, hb1'])
 have C1 := jI fun W A c h => RefUint_any A m1 c u1 hl1 b1 W h (by omega) m2 (by rw [hm2, hb2'])
 have C2 := jI fun W A c h => RefUint_any A m2 c u2 hl2 b2 W h (by omega) m3 (by rw [hm3, hb3'])
 have C3 := jI fun W A' c' h' h => RefBytes_any A' m3 c' b3 A n c e.data W h' h (by omega) hs m (by rw [hm, hfin])
 rw [← hb1'] at C0
 simp only [← hb2'] at C1
 simp only [← hb3'] at C2
 simp only [← hfin] at C3
 have HN := jI h
 clear h hs hm hW1 hg hb1 hq hsz hu0 hu1 hu2 hl0 hl1 hl2 hlen hfin hz1 hz2 hz3 hm1 hm2 hm3 hb1' hb2' hb3'
 go_enter Tryz.func44, Tryz.ntmps44
 go_upto_region 1 with fail
 rw [← HW.out.1, ← HW.out.2]
 have hd0 : Below W1.heap.size W1 W1.drew := (Below.refl _ _).drew
 refine wp_region_held_drew (S := fun W => Below W1.heap.size W1 W) (by kernel_rfl) hd0 (fun hHeld => ?_)
 refine wpAnyH_take (i := 0) (oi := { dst := Option.some 3, op := Op.fieldAddr 96 (Operand.tmp 1) 0, type := 0, pos := "ref.go:188", after := #[], guard := Option.none }) (v := .pointer (some ⟨g, 0, none⟩)) rfl (by kernel_rfl) (by kernel_rfl) (by kernel_rfl) (fun _ _ _ h => h) (Or.inl ⟨by rfl, ?_⟩) hHeld ?_
 · intro W hSw
   obtain ⟨z0, z1, z2, z3⟩ := cells4 ((hSw.block g (obj_lt HE.out.2)).trans HE.out.2)
   go_simp
 simp only [Act.put, qA, qB, qC]
 refine wpAnyH_take (i := 1) (oi := { dst := Option.some 4, op := Op.load 3 (Operand.tmp 3), type := 3, pos := "ref.go:188", after := #[{ on := 0, ground := Ground.data }], guard := Option.none }) (v := .int .i64 e.index) rfl (by kernel_rfl) (by kernel_rfl) (by kernel_rfl) (fun _ _ _ h => h) (Or.inl ⟨by rfl, ?_⟩) hHeld ?_
 · intro W hSw
   obtain ⟨z0, z1, z2, z3⟩ := cells4 ((hSw.block g (obj_lt HE.out.2)).trans HE.out.2)
   go_simp
 simp only [Act.put, qA, qB, qC]
 refine wpAnyH_take (i := 2) (oi := { dst := Option.some 5, op := Op.convert 3 91 (Operand.tmp 4), type := 91, pos := "ref.go:188", after := #[{ on := 1, ground := Ground.data }], guard := Option.none }) (v := .int .u64 (u0 : Int)) rfl (by kernel_rfl) (by kernel_rfl) (by kernel_rfl) (fun _ _ _ h => h) (Or.inl ⟨by rfl, ?_⟩) hHeld ?_
 · intro W hSw
   obtain ⟨z0, z1, z2, z3⟩ := cells4 ((hSw.block g (obj_lt HE.out.2)).trans HE.out.2)
   go_simp
 simp only [Act.put, qA, qB, qC]
 refine wpAnyH_take (i := 4) (oi := { dst := Option.some 7, op := Op.fieldAddr 96 (Operand.tmp 1) 1, type := 0, pos := "ref.go:188", after := #[], guard := Option.none }) (v := .pointer (some ⟨g, 1, none⟩)) rfl (by kernel_rfl) (by kernel_rfl) (by kernel_rfl) (fun _ _ _ h => h) (Or.inl ⟨by rfl, ?_⟩) hHeld ?_
 · intro W hSw
   obtain ⟨z0, z1, z2, z3⟩ := cells4 ((hSw.block g (obj_lt HE.out.2)).trans HE.out.2)
   go_simp
 simp only [Act.put, qA, qB, qC]
 refine wpAnyH_take (i := 5) (oi := { dst := Option.some 8, op := Op.load 3 (Operand.tmp 7), type := 3, pos := "ref.go:188", after := #[{ on := 4, ground := Ground.data }], guard := Option.none }) (v := .int .i64 e.term) rfl (by kernel_rfl) (by kernel_rfl) (by kernel_rfl) (fun _ _ _ h => h) (Or.inl ⟨by rfl, ?_⟩) hHeld ?_
 · intro W hSw
   obtain ⟨z0, z1, z2, z3⟩ := cells4 ((hSw.block g (obj_lt HE.out.2)).trans HE.out.2)
   go_simp
 simp only [Act.put, qA, qB, qC]
 refine wpAnyH_take (i := 6) (oi := { dst := Option.some 9, op := Op.convert 3 91 (Operand.tmp 8), type := 91, pos := "ref.go:188", after := #[{ on := 5, ground := Ground.data }], guard := Option.none }) (v := .int .u64 (u1 : Int)) rfl (by kernel_rfl) (by kernel_rfl) (by kernel_rfl) (fun _ _ _ h => h) (Or.inl ⟨by rfl, ?_⟩) hHeld ?_
 · intro W hSw
   obtain ⟨z0, z1, z2, z3⟩ := cells4 ((hSw.block g (obj_lt HE.out.2)).trans HE.out.2)
   go_simp
 simp only [Act.put, qA, qB, qC]
 refine wpAnyH_take (i := 8) (oi := { dst := Option.some 11, op := Op.fieldAddr 96 (Operand.tmp 1) 2, type := 0, pos := "ref.go:188", after := #[], guard := Option.none }) (v := .pointer (some ⟨g, 2, none⟩)) rfl (by kernel_rfl) (by kernel_rfl) (by kernel_rfl) (fun _ _ _ h => h) (Or.inl ⟨by rfl, ?_⟩) hHeld ?_
 · intro W hSw
   obtain ⟨z0, z1, z2, z3⟩ := cells4 ((hSw.block g (obj_lt HE.out.2)).trans HE.out.2)
   go_simp
 simp only [Act.put, qA, qB, qC]
 refine wpAnyH_take (i := 9) (oi := { dst := Option.some 12, op := Op.load 3 (Operand.tmp 11), type := 3, pos := "ref.go:188", after := #[{ on := 8, ground := Ground.data }], guard := Option.none }) (v := .int .i64 e.kind) rfl (by kernel_rfl) (by kernel_rfl) (by kernel_rfl) (fun _ _ _ h => h) (Or.inl ⟨by rfl, ?_⟩) hHeld ?_
 · intro W hSw
   obtain ⟨z0, z1, z2, z3⟩ := cells4 ((hSw.block g (obj_lt HE.out.2)).trans HE.out.2)
   go_simp
 simp only [Act.put, qA, qB, qC]
 refine wpAnyH_take (i := 10) (oi := { dst := Option.some 13, op := Op.convert 3 91 (Operand.tmp 12), type := 91, pos := "ref.go:188", after := #[{ on := 9, ground := Ground.data }], guard := Option.none }) (v := .int .u64 (u2 : Int)) rfl (by kernel_rfl) (by kernel_rfl) (by kernel_rfl) (fun _ _ _ h => h) (Or.inl ⟨by rfl, ?_⟩) hHeld ?_
 · intro W hSw
   obtain ⟨z0, z1, z2, z3⟩ := cells4 ((hSw.block g (obj_lt HE.out.2)).trans HE.out.2)
   go_simp
 simp only [Act.put, qA, qB, qC]
 refine wpAnyH_take (i := 12) (oi := { dst := Option.some 15, op := Op.fieldAddr 96 (Operand.tmp 1) 3, type := 0, pos := "ref.go:188", after := #[], guard := Option.none }) (v := .pointer (some ⟨g, 3, none⟩)) rfl (by kernel_rfl) (by kernel_rfl) (by kernel_rfl) (fun _ _ _ h => h) (Or.inl ⟨by rfl, ?_⟩) hHeld ?_
 · intro W hSw
   obtain ⟨z0, z1, z2, z3⟩ := cells4 ((hSw.block g (obj_lt HE.out.2)).trans HE.out.2)
   go_simp
 simp only [Act.put, qA, qB, qC]
 refine wpAnyH_take (i := 13) (oi := { dst := Option.some 16, op := Op.load 33 (Operand.tmp 15), type := 33, pos := "ref.go:188", after := #[{ on := 12, ground := Ground.data }], guard := Option.none }) (v := .slice A n c) rfl (by kernel_rfl) (by kernel_rfl) (by kernel_rfl) (fun _ _ _ h => h) (Or.inl ⟨by rfl, ?_⟩) hHeld ?_
 · intro W hSw
   obtain ⟨z0, z1, z2, z3⟩ := cells4 ((hSw.block g (obj_lt HE.out.2)).trans HE.out.2)
   go_simp
 simp only [Act.put, qA, qB, qC]
 clear k0 k1 k2
 refine wpAnyH_ready (rs := [3]) (by kernel_rfl) (by simp) ?_
 refine AllReadyH.cons (o := { dst := Option.some 6, op := Op.call { callee := Callee.value (Operand.func 41), args := #[Operand.const (Value.slice Option.none 0 0), Operand.tmp 5], argTypes := #[33, 91] }, type := 33, pos := "ref.go:188", after := #[{ on := 2, ground := Ground.data }], guard := Option.none }) rfl (fun K hK => ?_) AllReadyH.nil
 go_simp
 refine (C0.out _).mono ?_
 rintro y w1 ⟨A1, c1, rfl, hi1, hb1⟩
 have hb1 : Below W1.heap.size W1 w1 := hd0.trans hb1
 refine hK.out _ _ hb1 (fun hHeld2 => ?_)
 clear hK K hHeld
 have hHeld := hHeld2
 clear hHeld2
 have H1 := jI (jA hi1 hb1)
 clear hi1 hb1 hd0
 refine wpAnyH_ready (rs := [7]) (by kernel_rfl) (by simp) ?_
 refine AllReadyH.cons (o := { dst := Option.some 10, op := Op.call { callee := Callee.value (Operand.func 41), args := #[Operand.tmp 6, Operand.tmp 9], argTypes := #[33, 91] }, type := 33, pos := "ref.go:188", after := #[{ on := 3, ground := Ground.data }, { on := 6, ground := Ground.data }, { on := 3, ground := Ground.chain }], guard := Option.none }) rfl (fun K hK => ?_) AllReadyH.nil
 go_simp
 refine (C1.out _ _ _ H1.out.1).mono ?_
 rintro y w2 ⟨A2, c2, rfl, hi2, hb2⟩
 have hb2 : Below W1.heap.size W1 w2 := H1.out.2.trans (hb2.mono H1.out.2.size)
 refine hK.out _ _ hb2 (fun hHeld2 => ?_)
 clear hK K hHeld
 have hHeld := hHeld2
 clear hHeld2
 have H2 := jI (jA hi2 hb2)
 clear hi2 hb2
 refine wpAnyH_ready (rs := [11]) (by kernel_rfl) (by simp) ?_
 refine AllReadyH.cons (o := { dst := Option.some 14, op := Op.call { callee := Callee.value (Operand.func 41), args := #[Operand.tmp 10, Operand.tmp 13], argTypes := #[33, 91] }, type := 33, pos := "ref.go:188", after := #[{ on := 7, ground := Ground.data }, { on := 10, ground := Ground.data }, { on := 7, ground := Ground.chain }], guard := Option.none }) rfl (fun K hK => ?_) AllReadyH.nil
 go_simp
 refine (C2.out _ _ _ H2.out.1).mono ?_
 rintro y w3 ⟨A3, c3, rfl, hi3, hb3⟩
 have hb3 : Below W1.heap.size W1 w3 := H2.out.2.trans (hb3.mono H2.out.2.size)
 refine hK.out _ _ hb3 (fun hHeld2 => ?_)
 clear hK K hHeld
 have hHeld := hHeld2
 clear hHeld2
 have H3 := jI (jA hi3 hb3)
 clear hi3 hb3
 refine wpAnyH_ready (rs := [14]) (by kernel_rfl) (by simp) ?_
 refine AllReadyH.cons (o := { dst := Option.some 17, op := Op.call { callee := Callee.value (Operand.func 42), args := #[Operand.tmp 14, Operand.tmp 16], argTypes := #[33, 33] }, type := 33, pos := "ref.go:188", after := #[{ on := 11, ground := Ground.data }, { on := 13, ground := Ground.data }, { on := 11, ground := Ground.chain }], guard := Option.none }) rfl (fun K hK => ?_) AllReadyH.nil
 go_simp
 refine (C3.out _ _ _ H3.out.1 (HN.out.below (HE.out.1.trans (H3.out.2.mono HE.out.1.size)))).mono ?_
 rintro y w4 ⟨A4, c4, rfl, hi4, hb4⟩
 have hb4 : Below W1.heap.size W1 w4 := H3.out.2.trans (hb4.mono H3.out.2.size)
 refine hK.out _ _ hb4 (fun hHeld2 => ?_)
 clear hK K hHeld
 have hHeld := hHeld2
 clear hHeld2
 have H4 := jI (jA hi4 hb4)
 clear hi4 hb4
 refine wpAnyH_take (i := 15) (oi := { dst := Option.some 2, op := Op.assign (Operand.tmp 17), type := 33, pos := "ref.go:188", after := #[{ on := 14, ground := Ground.data }, { on := 14, ground := Ground.chain }, { on := 0, ground := Ground.phase }, { on := 1, ground := Ground.phase }, { on := 2, ground := Ground.phase }, { on := 3, ground := Ground.phase }, { on := 4, ground := Ground.phase }, { on := 5, ground := Ground.phase }, { on := 6, ground := Ground.phase }, { on := 7, ground := Ground.phase }, { on := 8, ground := Ground.phase }, { on := 9, ground := Ground.phase }, { on := 10, ground := Ground.phase }, { on := 11, ground := Ground.phase }, { on := 12, ground := Ground.phase }, { on := 13, ground := Ground.phase }, { on := 14, ground := Ground.phase }], guard := Option.none }) (v := .slice A4 m c4) rfl (by kernel_rfl) (by kernel_rfl) (by kernel_rfl) (fun _ _ _ h => h) (Or.inl ⟨by rfl, ?_⟩) hHeld ?_
 · intro W hSw
   go_simp
 simp only [Act.put, qA, qB, qC]
 clear hHeld
 refine wpAnyH_done (by kernel_rfl) ?_ _
 go_wp2_with fail
 go_ret
 exact ⟨A4, c4, rfl, H4.out.1, HE.out.1.trans (H4.out.2.mono HE.out.1.size)⟩
end
section
theorem fitM_false {e : En} : fitM e = false ↔ ¬ (1 ≤ e.index ∧ e.index ≤ 1099511627776 ∧ 1 ≤ e.term ∧ e.term ≤ 1099511627776 ∧ 0 ≤ e.kind ∧ e.kind ≤ 2 ∧ e.data.length ≤ 4096) := by unfold fitM; exact decide_eq_false_iff_not
set_option maxHeartbeats 4000000 in
theorem emay_any (e : En) (A : Option Addr) (n c : Nat) (w : World) (hn : n = e.data.length) (hn2 : n ≤ 9223372036854775807) (b : Bool) (hb : b = fitM e) :
   Calls Tryz.prog 139 #[.agg #[.int .i64 e.index, .int .i64 e.term, .int .i64 e.kind, .slice A n c]] w fun y w' => y = .returned (.bool b) ∧ Below w.heap.size w w' := by
 obtain ⟨W1, g, hW1, hg, hb1, hq, hsz⟩ := one_box w (.cells #[.int .i64 e.index, .int .i64 e.term, .int .i64 e.kind, .slice A n c] 151)
 have HW := jI (jA hW1 hg)
 have HE := jI (jA hb1 (jA hq hsz))
 obtain ⟨x0, x1, x2, x3⟩ := cells4 hq
 have C0 := jI fun n => counts_any n W1 _ rfl
 have C2 := jI fun n => isKind_any n W1 _ rfl
 have in1 : (n : Int) ≤ 9223372036854775807 := by omega
 have hcase : (cntE e.index = false ∧ b = false) ∨ (cntE e.index = true ∧ cntE e.term = false ∧ b = false) ∨ (cntE e.index = true ∧ cntE e.term = true ∧ kndE e.kind = false ∧ b = false) ∨ (cntE e.index = true ∧ cntE e.term = true ∧ kndE e.kind = true ∧ ¬ (n : Int) ≤ 4096 ∧ b = false) ∨ (cntE e.index = true ∧ cntE e.term = true ∧ kndE e.kind = true ∧ (n : Int) ≤ 4096 ∧ b = true) := by
   rw [hb]
   by_cases h : fitM e = true
   · have h1 := fitM_iff.1 h
     exact Or.inr (Or.inr (Or.inr (Or.inr ⟨cntE_true.2 ⟨h1.1, h1.2.1⟩, cntE_true.2 ⟨h1.2.2.1, h1.2.2.2.1⟩, kndE_true.2 ⟨h1.2.2.2.2.1, h1.2.2.2.2.2.1⟩, by omega, h⟩)))
   · have h := Bool.eq_false_iff.2 h
     have h1 := fitM_false.1 h
     cases h2 : cntE e.index with
     | false => exact Or.inl ⟨rfl, h⟩
     | true =>
       cases h3 : cntE e.term with
       | false => exact Or.inr (Or.inl ⟨rfl, rfl, h⟩)
       | true =>
         cases h4 : kndE e.kind with
         | false => exact Or.inr (Or.inr (Or.inl ⟨rfl, rfl, rfl, h⟩))
         | true =>
           have := cntE_true.1 h2
           have := cntE_true.1 h3
           have := kndE_true.1 h4
           exact Or.inr (Or.inr (Or.inr (Or.inl ⟨rfl, rfl, rfl, by omega, h⟩)))
 clear hW1 hg hb1 hq hsz hb hn
 rcases hcase with ⟨h0, rfl⟩ | ⟨h0, h1, rfl⟩ | ⟨h0, h1, h2, rfl⟩ | ⟨h0, h1, h2, h3, rfl⟩ | ⟨h0, h1, h2, h3, rfl⟩
 all_goals
   go_enter Tryz.func139, Tryz.ntmps139
   go_upto_region 1 with fail
   rw [← HW.out.1, ← HW.out.2]
   go_wp2_with (first
     | (go_at_call 123; go_must (refine (C0.out _).mono ?_; rintro y w1 ⟨rfl, rfl⟩))
     | (go_at_call 150; go_must (refine (C2.out _).mono ?_; rintro y w1 ⟨rfl, rfl⟩)))
   go_ret
   exact ⟨by first | rfl | exact ret_bool (decide_eq_false (by omega)) | exact ret_bool (decide_eq_true (by omega)), HE.out.1⟩
end
section
theorem wpAnyH_strong {P : Program} {md : Region.Mode} {ops : Array Oper} {Q : Exit → Act → World → Prop} {S S' : World → Prop} (hSS : ∀ w, S' w → S w) :
   ∀ (fuel : Nat) (listed : Array Bool) (a : Act) (w : World), wpAnyH P md ops Q S' fuel listed a w → wpAnyH P md ops Q S fuel listed a w
 | 0, _, _, _, h => h
 | fuel + 1, _, _, _, h => ⟨h.1, fun i hi => wpOp_mono (fun a' w' h' => ⟨hSS _ h'.1, wpAnyH_strong hSS fuel _ a' w' h'.2⟩) (h.2 i hi)⟩
end
section
theorem ret_int {a b : Int} (h : a = b) : Ending.returned (.int .i64 a) = Ending.returned (.int .i64 b) := by rw [h]
def hdE (b t : Int) : Bool := decide ((b = 0 ∧ t = 0) ∨ (1 ≤ b ∧ b ≤ 1099511627776 ∧ 1 ≤ t ∧ t ≤ 1099511627776))
theorem mayE_parts3 (l : Lg) : mayE l = (hdE l.base l.term && decide (l.l.length ≤ 4096) && behindE l.base l.term l.l) := by
 unfold mayE
 congr 1
 rw [Bool.eq_iff_iff, Bool.and_eq_true, headE_iff]
 unfold hdE
 rw [decide_eq_true_iff, decide_eq_true_iff]
 omega
set_option maxHeartbeats 4000000 in
theorem Check_g (l : Lg) (A : Option Addr) (n c : Nat) (w : World) (h : Ents w (.slice A n c) l.l) (hi : inI l.base) (ht : inI l.term) (hs : ∀ e ∈ l.l, e.data.length ≤ 9223372036854775807) (k : Nat) (hk : k = (if mayE l = true then 0 else 1)) :
   Calls Tryz.prog 108 #[.agg #[.int .i64 l.base, .int .i64 l.term, .slice A n c]] w fun y w' => y = .returned (er k) ∧ Below w.heap.size w w' := by
 obtain ⟨hn, hnc, hcm⟩ := h.len_
 rw [mayE_parts3] at hk
 obtain ⟨base, tm, es⟩ := l
 simp only at h hi ht hs hn hk ⊢
 obtain ⟨W1, g, hW1, hg, hb1, hq, hsz⟩ := one_box w (.cells #[.int .i64 base, .int .i64 tm, .slice A n c] 31)
 have HW := jI (jA hW1 hg)
 have HE := jI (jA hb1 (jA hq hsz))
 obtain ⟨x0, x1, x2⟩ := cells3 hq
 have C0 := jI fun n W => counts_any n W _ rfl
 have CF := jI (follow_any base tm A n c es W1 (h.below hb1) hi ht hs _ rfl)
 have in1 : (n : Int) ≤ 9223372036854775807 := by omega
 rw [← hn] at hk
 have htail : (hdE base tm = true) → (4096 < (n : Int) ∧ k = 1) ∨ (¬ 4096 < (n : Int) ∧ behindE base tm es = false ∧ k = 1) ∨ (¬ 4096 < (n : Int) ∧ behindE base tm es = true ∧ k = 0) := by
   intro h1
   rw [h1, Bool.true_and] at hk
   by_cases h2 : n ≤ 4096
   · rw [decide_eq_true h2, Bool.true_and] at hk
     cases h3 : behindE base tm es with
     | false => rw [h3] at hk; exact Or.inr (Or.inl ⟨by omega, rfl, hk⟩)
     | true => rw [h3] at hk; exact Or.inr (Or.inr ⟨by omega, rfl, hk⟩)
   · rw [decide_eq_false h2, Bool.false_and] at hk
     exact Or.inl ⟨by omega, hk⟩
 have hbad : hdE base tm = false → k = 1 := by
   intro h1
   rw [h1, Bool.false_and, Bool.false_and] at hk
   exact hk
 have hhead : (base = 0 ∧ tm = 0 ∧ hdE base tm = true) ∨ (base = 0 ∧ ¬ tm = 0 ∧ cntE base = false ∧ hdE base tm = false) ∨ (¬ base = 0 ∧ cntE base = false ∧ hdE base tm = false) ∨ (¬ base = 0 ∧ cntE base = true ∧ cntE tm = false ∧ hdE base tm = false) ∨ (¬ base = 0 ∧ cntE base = true ∧ cntE tm = true ∧ hdE base tm = true) := by
   have e1 : hdE base tm = true ↔ _ := decide_eq_true_iff
   have e2 : hdE base tm = false ↔ _ := decide_eq_false_iff_not
   rw [e1, e2, cntE_true, cntE_true, cntE_false, cntE_false]
   omega
 clear hk hW1 hg hb1 hq hsz hn h hi ht hs hnc hcm
 rcases hhead with ⟨rfl, rfl, hh⟩ | ⟨rfl, h1, h2, hh⟩ | ⟨h1, h2, hh⟩ | ⟨h1, h2, h3, hh⟩ | ⟨h1, h2, h3, hh⟩
 case inr.inl | inr.inr.inl | inr.inr.inr.inl =>
   obtain rfl := hbad hh
   clear hbad htail hh
   try have s1 : (tm == 0) = false := beq_eq_false_iff_ne.2 h1
   try have s2 : (base == 0) = false := beq_eq_false_iff_ne.2 h1
   go_enter Tryz.func108, Tryz.ntmps108
   go_upto_region 1 with fail
   rw [← HW.out.1, ← HW.out.2]
   go_wp2_with (go_at_call 123; go_must (refine (C0.out _ _).mono ?_; rintro y w1 ⟨rfl, rfl⟩))
   go_ret
   exact ⟨rfl, HE.out.1⟩
 all_goals
   have ht := htail hh
   clear hbad htail hh
   rcases ht with ⟨h4, rfl⟩ | ⟨h4, h5, rfl⟩ | ⟨h4, h5, rfl⟩
   all_goals
     go_enter Tryz.func108, Tryz.ntmps108
     go_upto_region 1 with fail
     rw [← HW.out.1, ← HW.out.2]
     go_wp2_with (first
       | (go_at_call 123; go_must (refine (C0.out _ _).mono ?_; rintro y w1 ⟨rfl, rfl⟩))
       | (go_at_call 124; go_must (refine CF.out.mono ?_; rintro y w1 ⟨rfl, hb1⟩; have HB1 := jI (HE.out.1.trans (hb1.mono HE.out.1.size)); clear hb1)))
     go_ret
     first
       | exact ⟨rfl, HE.out.1⟩
       | exact ⟨rfl, HB1.out⟩
set_option maxHeartbeats 4000000 in
theorem end_g (l : Lg) (A : Option Addr) (n c : Nat) (w : World) (h0 : 0 ≤ l.base) (h1 : l.base ≤ 2199023255552) (h2 : n ≤ 1000000) (z : Int) (hz : z = l.base + n) :
   Calls Tryz.prog 109 #[.agg #[.int .i64 l.base, .int .i64 l.term, .slice A n c]] w fun y w' => y = .returned (.int .i64 z) ∧ Below w.heap.size w w' := by
 subst hz
 obtain ⟨W1, g, hW1, hg, hb1, hq, hsz⟩ := one_box w (.cells #[.int .i64 l.base, .int .i64 l.term, .slice A n c] 31)
 have HW := jI (jA hW1 hg)
 have HE := jI hb1
 obtain ⟨x0, x1, x2⟩ := cells3 hq
 have i1 : (n : Int) ≤ 1000000 := by omega
 clear hW1 hg hb1 hq hsz
 go_enter Tryz.func109, Tryz.ntmps109
 go_upto_region 1 with fail
 rw [← HW.out.1, ← HW.out.2]
 go_wp2_with fail
 go_ret
 exact ⟨rfl, HE.out⟩
set_option maxHeartbeats 4000000 in
theorem place_g (l : Lg) (v : Value) (i : Int) (w : World) (h0 : 0 ≤ l.base) (h1 : l.base ≤ 2199023255552) (h2 : 0 ≤ i) (h3 : i ≤ 4398046511104) (z : Int) (hz : z = i - l.base - 1) :
   Calls Tryz.prog 110 #[.agg #[.int .i64 l.base, .int .i64 l.term, v], .int .i64 i] w fun y w' => y = .returned (.int .i64 z) ∧ Below w.heap.size w w' := by
 subst hz
 obtain ⟨W1, g, hW1, hg, hb1, hq, hsz⟩ := one_box w (.cells #[.int .i64 l.base, .int .i64 l.term, v] 31)
 have HW := jI (jA hW1 hg)
 have HE := jI hb1
 obtain ⟨x0, x1, x2⟩ := cells3 hq
 clear hW1 hg hb1 hq hsz
 go_enter Tryz.func110, Tryz.ntmps110
 go_upto_region 1 with fail
 rw [← HW.out.1, ← HW.out.2]
 go_wp2_with fail
 go_ret
 exact ⟨rfl, HE.out⟩
def tmE (l : Lg) (i : Int) : Int := if i = l.base then l.term else (l.l.getD (i - l.base - 1).toNat ze).term
set_option maxHeartbeats 4000000 in
theorem termAt_g (l : Lg) (A : Option Addr) (n c : Nat) (i : Int) (w : World) (h : Ents w (.slice A n c) l.l) (h0 : 0 ≤ l.base) (h1 : l.base ≤ 2199023255552) (h2 : l.base ≤ i) (h3 : i ≤ l.base + n) (h4 : n ≤ 1000000) (z : Int) (hz : z = tmE l i) :
   Calls Tryz.prog 133 #[.agg #[.int .i64 l.base, .int .i64 l.term, .slice A n c], .int .i64 i] w fun y w' => y = .returned (.int .i64 z) ∧ Below w.heap.size w w' := by
 have hn := h.len_
 obtain ⟨W1, g, hW1, hg, hb1, hq, hsz⟩ := one_box w (.cells #[.int .i64 l.base, .int .i64 l.term, .slice A n c] 31)
 have HW := jI (jA hW1 hg)
 have HE := jI (jA hb1 hq)
 obtain ⟨x0, x1, x2⟩ := cells3 hq
 by_cases hi : i = l.base
 · have HZ := jI (show z = l.term by rw [hz]; unfold tmE; rw [if_pos hi])
   clear hW1 hg hb1 hq hsz hz hn h h0 h1 h2 h3 h4
   go_enter Tryz.func133, Tryz.ntmps133
   go_upto_region 1 with fail
   rw [← HW.out.1, ← HW.out.2]
   go_wp2_with fail
   go_ret
   exact ⟨ret_int HZ.out.symm, HE.out.1⟩
 · obtain ⟨k, hk⟩ : ∃ k : Nat, i - l.base - 1 = (k : Int) := ⟨(i - l.base - 1).toNat, by omega⟩
   have hkl : k < l.l.length := by omega
   obtain ⟨bk, off, Ad, cd, rfl, hbb, hok, q0, q1, q2, q3, -⟩ := h.at_ k hkl
   have HZ := jI (show z = l.l[k].term by rw [hz]; unfold tmE; rw [if_neg hi, hk, Int.toNat_natCast, List.getD, List.getElem?_eq_getElem hkl]; rfl)
   obtain ⟨e, he⟩ : ∃ e, e = l.l[k] := ⟨_, rfl⟩
   rw [← he] at q1 HZ
   have p1 := (hb1.cell (p := ⟨bk, off + k * 4 + 1, none⟩) hbb).trans q1
   have CP : ∀ d os, Calls Tryz.prog 110 #[.agg #[.int .i64 l.base, .int .i64 l.term, .slice (some ⟨bk, off, none⟩) n c], .int .i64 i] (Sort.grow (redrawn W1 d) os) fun e w'' => e = .returned (.int .i64 (k : Int)) ∧ ∃ p : Regrown, w'' = Sort.grow (redrawn W1 p.d) p.os :=
     fun d os => Calls.regrown_of (place_g l _ i _ h0 h1 (by omega) (by omega) _ hk.symm)
   have hx : ∀ d os, (Sort.grow (redrawn W1 d) os).cell? ⟨g, 0, none⟩ = some (.int .i64 l.base) ∧ (Sort.grow (redrawn W1 d) os).cell? ⟨g, 1, none⟩ = some (.int .i64 l.term) ∧ (Sort.grow (redrawn W1 d) os).cell? ⟨g, 2, none⟩ = some (.slice (some ⟨bk, off, none⟩) n c) := fun d os => ⟨cell_regrown x0 d os, cell_regrown x1 d os, cell_regrown x2 d os⟩
   have y0 := fun d os => (hx d os).1
   have y1 := fun d os => (hx d os).2.1
   have y2 := fun d os => (hx d os).2.2
   have y3 := fun d os => cell_regrown p1 d os
   have s1 : (k : Int) < (n : Int) := by omega
   have s2 : (0 : Int) ≤ (k : Int) := by omega
   clear hW1 hg hb1 hq hsz hz hn h h0 h1 h2 h3 h4 q0 q1 q2 q3 p1 hx hok he hbb hk hkl
   go_enter Tryz.func133, Tryz.ntmps133
   go_upto_region 1 with fail
   rw [← HW.out.1, ← HW.out.2]
   go_upto_region 3 with fail
   refine wp_region_quiet_below (by kernel_rfl) (by kernel_rfl) ?_
   repeat (go_big_quiet_step (exact CP _ _))
   refine wpQuiet_nil ?_
   rintro W ⟨⟨dr, osr⟩, rfl⟩
   have hb9 := HE.out.1.trans ((below_regrown W1 dr osr).mono HE.out.1.size)
   go_wp2_with fail
   go_ret
   exact ⟨ret_int HZ.out.symm, hb9⟩
structure Inp (l : Lg) (A : Option Addr) (n c : Nat) (w : World) : Prop where
 e : Ents w (.slice A n c) l.l
 b : inI l.base
 t : inI l.term
 s : SmallE 1000000 100000000 l.l
theorem Inp.below {l : Lg} {A : Option Addr} {n c : Nat} {w w' : World} (h : Inp l A n c w) (hb : Below w.heap.size w w') : Inp l A n c w' := ⟨h.e.below hb, h.b, h.t, h.s⟩
theorem Inp.check {l : Lg} {A : Option Addr} {n c : Nat} {w : World} (h : Inp l A n c w) (k : Nat) (hk : k = (if mayE l = true then 0 else 1)) :
   Calls Tryz.prog 108 #[.agg #[.int .i64 l.base, .int .i64 l.term, .slice A n c]] w fun y w' => y = .returned (er k) ∧ Below w.heap.size w w' :=
 Check_g l A n c w h.e h.b h.t (fun e he => by have := h.s.2 e he; omega) k hk
theorem Inp.len {l : Lg} {A : Option Addr} {n c : Nat} {w : World} (h : Inp l A n c w) : n = l.l.length ∧ n ≤ c ∧ c ≤ 9223372036854775807 ∧ n ≤ 1000000 := by
 have h1 := h.e.len_
 have h2 := h.s.1
 exact ⟨h1.1, h1.2.1, h1.2.2, by omega⟩
theorem Inp.bad {l : Lg} {A : Option Addr} {n c : Nat} {w : World} (h : Inp l A n c w) (hm : mayE l = false) :
   Calls Tryz.prog 108 #[.agg #[.int .i64 l.base, .int .i64 l.term, .slice A n c]] w fun y w' => y = .returned (.iface 69 (.int .i64 1)) ∧ Below w.heap.size w w' :=
 h.check 1 (by rw [hm]; rfl)
theorem Inp.good {l : Lg} {A : Option Addr} {n c : Nat} {w : World} (h : Inp l A n c w) (hm : mayE l = true) :
   Calls Tryz.prog 108 #[.agg #[.int .i64 l.base, .int .i64 l.term, .slice A n c]] w fun y w' => y = .returned .nilIface ∧ Below w.heap.size w w' :=
 h.check 0 (by rw [hm]; rfl)
theorem endE_term {l : Lg} (h : mayE l = true) : (endE l).2 = tmE l (endE l).1 := by
 have h1 := mayE_parts h
 cases hn : l.l.length with
 | zero => rw [endE_nil hn]; unfold tmE; rw [if_pos rfl]
 | succ k =>
   have hk : k < l.l.length := by omega
   have h2 := endE_index h
   unfold tmE
   rw [if_neg (by omega), h2, show (l.base + (l.l.length : Int) - l.base - 1).toNat = k from by omega, List.getD, List.getElem?_eq_getElem hk, endE_more hn hk]
   rfl
set_option maxHeartbeats 4000000 in
theorem Last_g (l : Lg) (A : Option Addr) (n c : Nat) (w : World) (h : Inp l A n c w) (r : Int × Int) (hr : r = lastE l) :
   Calls Tryz.prog 120 #[.agg #[.int .i64 l.base, .int .i64 l.term, .slice A n c]] w fun y w' => y = .returned (.tuple #[.int .i64 r.1, .int .i64 r.2]) ∧ Below w.heap.size w w' := by
 obtain ⟨W1, g, hW1, hg, hb1, hq, hsz⟩ := one_box w (.cells #[.int .i64 l.base, .int .i64 l.term, .slice A n c] 31)
 have HW := jI (jA hW1 hg)
 have HE := jI (jA hb1 (jA hq hsz))
 have HI := jI (h.below hb1)
 have HCL := jI (show ∀ W, Below W1.heap.size W1 W → W.cell? ⟨g, 0, none⟩ = some (.int .i64 l.base) ∧ W.cell? ⟨g, 1, none⟩ = some (.int .i64 l.term) ∧ W.cell? ⟨g, 2, none⟩ = some (.slice A n c) from fun W hW => cells3 ((hW.block g (obj_lt hq)).trans hq))
 obtain ⟨x0, x1, x2⟩ := cells3 hq
 have hl := h.len
 cases hm : mayE l with
 | false =>
   have CC := jI (HI.out.bad hm)
   have HR := jI (hr.trans (lastE_not hm))
   clear h hW1 hg hb1 hq hsz hr hm hl
   go_enter Tryz.func120, Tryz.ntmps120
   go_upto_region 1 with fail
   rw [← HW.out.1, ← HW.out.2]
   go_wp2_with (go_at_call 108; go_must (refine CC.out.mono ?_; rintro y w1 ⟨rfl, hb1⟩; have HB := jI (HE.out.1.trans (hb1.mono HE.out.1.size)); clear hb1))
   go_ret2
   exact ⟨by rw [HR.out]; rfl, HB.out⟩
 | true =>
   have hp := mayE_parts hm
   obtain ⟨e1, e2, hee⟩ : ∃ e1 e2, endE l = (e1, e2) := ⟨_, _, rfl⟩
   have CC := jI (HI.out.good hm)
   have he1 := endE_index hm
   have he2 := endE_term hm
   rw [hee] at he1 he2
   simp only at he1 he2
   have CE := jI fun W => end_g l A n c W hp.1 (by omega) (by omega) e1 (by omega)
   have CT := jI fun W (hW : Below W1.heap.size W1 W) => termAt_g l A n c e1 W (HI.out.e.below hW) hp.1 (by omega) (by omega) (by omega) (by omega) e2 he2
   have HR := jI (hr.trans ((lastE_may hm).trans hee))
   clear h hW1 hg hb1 hq hsz hr hm hl hp he1 he2 hee
   go_enter Tryz.func120, Tryz.ntmps120
   go_upto_region 1 with fail
   rw [← HW.out.1, ← HW.out.2]
   go_wp2_with (first
     | (go_at_call 108; go_must (refine CC.out.mono ?_; rintro y w1 ⟨rfl, hb1⟩; obtain ⟨x0, x1, x2⟩ := HCL.out w1 hb1; have HB1 := jI hb1; clear hb1))
     | (go_at_call 109; go_must (refine (CE.out _).mono ?_; rintro y w2 ⟨rfl, hb2⟩; have hb2 := HB1.out.trans (hb2.mono HB1.out.size); obtain ⟨x0, x1, x2⟩ := HCL.out w2 hb2; have HB2 := jI hb2; clear hb2))
     | (go_at_call 133; go_must (refine (CT.out _ HB2.out).mono ?_; rintro y w3 ⟨rfl, hb3⟩; have HB3 := jI (HB2.out.trans (hb3.mono HB2.out.size)); clear hb3)))
   go_ret2
   exact ⟨by rw [HR.out]; rfl, HE.out.1.trans (HB3.out.mono HE.out.1.size)⟩
end
section
theorem BClone_any (w : World) (A : Option Addr) (n c : Nat) (bs : List UInt8) (h : Bys w (.slice A n c) bs) (hb : n ≤ 1000000000) :
   Calls Tryz.prog 79 #[.slice A n c] w fun x w' => ∃ A1 c1, x = .returned (.slice A1 n c1) ∧ SlT w' (fun q => w.heap.size ≤ q ∧ q < w'.heap.size) (.slice A1 n c1) bs ∧ Below w.heap.size w w' := by
 obtain ⟨i0, hi, hz0, hz1, hz2⟩ := info_three info_byte
 have hn := h.len_
 have HN := jI (jA hn hb)
 rcases A with _ | a
 · have hb0 : bs = [] := by
     obtain ⟨A', c', hv, _, _, h3⟩ := h
     rcases h3 with h3 | ⟨b, off, hA, _⟩
     · exact h3
     · injection hv with e1 _ _; rw [hA] at e1; cases e1
   subst hb0
   simp at hn
   subst hn
   have hq := fun (w : World) (n' c' : Nat) => Lib.run_eql_slice_nil (P := Tryz.prog) w 33 5 none 0 c n' c' Tryz.underlying33
   clear h hi hz0 hz1 hz2
   go_enter Tryz.func79, Tryz.ntmps79
   go_wp2
   go_ret
   exact ⟨none, 0, rfl, SlT.nil_ _ _, Below.refl _ _⟩
 · have hq := fun (w : World) (n' c' : Nat) => Lib.run_eql_slice_nil (P := Tryz.prog) w 33 5 (some a) n c n' c' Tryz.underlying33
   have H := jI h
   clear h hn
   go_enter Tryz.func79, Tryz.ntmps79
   go_wp2_with (at_builtin; go_must (refine wpList_joinB (xs := []) (B := w.heap.size) (World.ownsRow_made w #[] 0 (Nat.le_refl _) (by simp [maxLen]) rfl) rfl _ _ rfl rfl (some a) n c rfl bs (H.out.below (below_alloc w _)) ?c1 ?c2 ?c3))
   case c1 => have := HN.out.2; simp; omega
   case c2 => rw [World.size_alloc]; omega
   case c3 =>
     intro v' w2 ho hg
     try rw [List.nil_append] at ho
     have hb2 := ((Below.refl w.heap.size w).alloc (Nat.le_refl _) (.cells #[] 5)).grown hg (by rw [World.size_alloc]; omega) (fun k hk => by injection hk with hk; rw [← hk]; exact Nat.le_refl _)
     have hI : SlT w2 (fun q => w.heap.size ≤ q ∧ q < w2.heap.size) v' bs := SlT.of_own ho _ fun q hq => ho.lt q hq
     obtain ⟨Ax, cx, hv, -, -⟩ := (Bys.of_own ho).form
     rw [← HN.out.1] at hv
     subst hv
     have HF := jI (jA hI hb2)
     clear ho hg hb2 hI
     go_wp2_with fail
     go_ret
     exact ⟨Ax, cx, rfl, HF.out.1, HF.out.2⟩
theorem set3_own {w : World} {g : Nat} {v0 v1 v2 v3 v : Value} {t : Nat} (h : w.heap[g]? = some (.cells #[v0, v1, v2, v3] t (0, 0))) : (w.setCell ⟨g, 3, none⟩ v).heap[g]? = some (.cells #[v0, v1, v2, v] t (0, 0)) := by
 simp [World.setCell, Array.getElem?_modify, h]
theorem set2_own {w : World} {g : Nat} {v0 v1 v2 v : Value} {t : Nat} (h : w.heap[g]? = some (.cells #[v0, v1, v2] t (0, 0))) : (w.setCell ⟨g, 2, none⟩ v).heap[g]? = some (.cells #[v0, v1, v] t (0, 0)) := by
 simp [World.setCell, Array.getElem?_modify, h]
theorem put4_other (w : World) (b : Nat) (v0 v1 v2 v3 : Value) (k : Nat) (hk : k ≠ b) : (put4 w b v0 v1 v2 v3).heap[k]? = w.heap[k]? := by
 unfold put4; rw [Below.heap_setCell _ _ _ _ hk, Below.heap_setCell _ _ _ _ hk, Below.heap_setCell _ _ _ _ hk, Below.heap_setCell _ _ _ _ hk]
theorem put4_size (w : World) (b : Nat) (v0 v1 v2 v3 : Value) : (put4 w b v0 v1 v2 v3).heap.size = w.heap.size := by unfold put4; simp only [World.size_setCell]
set_option maxHeartbeats 4000000 in
theorem copied_g (e : En) (A : Option Addr) (n c : Nat) (w : World) (h : Bys w (.slice A n c) e.data) (hs : n ≤ 1000000000) :
   Calls Tryz.prog 125 #[.agg #[.int .i64 e.index, .int .i64 e.term, .int .i64 e.kind, .slice A n c]] w fun y w' => ∃ A1 c1, y = .returned (.agg #[.int .i64 e.index, .int .i64 e.term, .int .i64 e.kind, .slice A1 n c1]) ∧ SlT w' (fun q => w.heap.size ≤ q ∧ q < w'.heap.size) (.slice A1 n c1) e.data ∧ Below w.heap.size w w' := by
 obtain ⟨W1, g, g2, hW1, hg, hg2, hb1, hq, hq2, hsz⟩ := two_box w (.cells #[.int .i64 e.index, .int .i64 e.term, .int .i64 e.kind, .slice A n c] 151) (.cells #[.int .i64 0, .int .i64 0, .int .i64 0, .slice none 0 0] 151)
 have HW := jI (jA hW1 (jA hg hg2))
 have HE := jI (jA hb1 (jA hq (jA hq2 (jA (show w.heap.size = g by omega) (jA (show g2 = g + 1 by omega) hsz)))))
 have HC := jI (BClone_any W1 A n c e.data (h.below hb1) hs)
 have HCL := jI (show ∀ W, Below W1.heap.size W1 W → W.heap[g]? = some (.cells #[.int .i64 e.index, .int .i64 e.term, .int .i64 e.kind, .slice A n c] 151 (0, 0)) ∧ W.heap[g2]? = some (.cells #[.int .i64 0, .int .i64 0, .int .i64 0, .slice none 0 0] 151 (0, 0)) from fun W hW => ⟨(hW.block g (obj_lt hq)).trans hq, (hW.block g2 (obj_lt hq2)).trans hq2⟩)
 obtain ⟨x0, x1, x2, x3⟩ := cells4 hq
 have hres : Tryz.f125.results = #[.cell 2 151] := by kernel_rfl
 clear h hs hW1 hb1 hq hq2 hg hg2 hsz
 go_enter Tryz.func125, Tryz.ntmps125
 go_upto_region 1 with fail
 rw [← HW.out.1, ← HW.out.2.1, ← HW.out.2.2]
 go_upto_region 2 with (go_at_call 79; go_must (refine HC.out.mono ?_; rintro y w1 ⟨A1, c1, rfl, hd1, hb1⟩; obtain ⟨hq, hq2⟩ := HCL.out w1 hb1; have f3 := frozen_own hq 3; obtain ⟨x0, x1, x2, x3⟩ := cells4 hq; have HB1 := jI (jA hd1 (jA hb1 (jA hq hq2))); clear hd1 hb1 hq hq2))
 clear x0 x1 x2 x3 f3
 obtain ⟨W2, hW2⟩ : ∃ W, W = w1.setCell ⟨g, 3, none⟩ (.slice A1 n c1) := ⟨_, rfl⟩
 have hq := set3_own (v := .slice A1 n c1) HB1.out.2.2.1
 have hq2 : (w1.setCell ⟨g, 3, none⟩ (.slice A1 n c1)).heap[g2]? = _ := (Below.heap_setCell w1 ⟨g, 3, none⟩ _ g2 (by have := HE.out.2.2.2.2.1; simp only; omega)).trans HB1.out.2.2.2
 rw [← hW2] at hq hq2 ⊢
 obtain ⟨x0, x1, x2, x3⟩ := cells4 hq
 obtain ⟨y0, y1, y2, y3⟩ := cells4 hq2
 have f0 := frozen_own hq2 0
 have f1 := frozen_own hq2 1
 have f2 := frozen_own hq2 2
 have f3 := frozen_own hq2 3
 have H2 := jI (jA hW2 hq2)
 clear hW2 hq hq2
 go_wp2_with fail
 obtain ⟨WF, hWF⟩ : ∃ W, W = put4 W2 g2 (.int .i64 e.index) (.int .i64 e.term) (.int .i64 e.kind) (.slice A1 n c1) := ⟨_, rfl⟩
 have hb2 : Below g w W2 := by rw [H2.out.1]; exact ((HE.out.1.mono (by rw [HE.out.2.2.2.1]; exact Nat.le_refl _)).trans (HB1.out.2.1.mono (by have := HE.out.2.2.2.2; omega))).setCell (show g ≤ g from Nat.le_refl g) _
 have hbF := put4_below (b := g2) (v0 := .int .i64 e.index) (v1 := .int .i64 e.term) (v2 := .int .i64 e.kind) (v3 := .slice A1 n c1) hb2 (show g ≤ g2 by have := HE.out.2.2.2.2.1; omega)
 obtain ⟨z0, z1, z2, z3⟩ := cells4 (put4_own H2.out.2 (.int .i64 e.index) (.int .i64 e.term) (.int .i64 e.kind) (.slice A1 n c1))
 have hoth : ∀ k, g2 < k → (put4 W2 g2 (.int .i64 e.index) (.int .i64 e.term) (.int .i64 e.kind) (.slice A1 n c1)).heap[k]? = w1.heap[k]? := fun k hk => by
   rw [put4_other _ _ _ _ _ _ _ (by omega), H2.out.1, Below.heap_setCell _ _ _ _ (by have := HE.out.2.2.2.2.1; simp only; omega)]
 have hsz2 : (put4 W2 g2 (.int .i64 e.index) (.int .i64 e.term) (.int .i64 e.kind) (.slice A1 n c1)).heap.size = w1.heap.size := by
   rw [put4_size, H2.out.1, World.size_setCell]
 rw [← hWF] at hbF z0 z1 z2 z3 hoth hsz2
 unfold put4 at hWF
 rw [← hWF]
 have HF := jI (jA hbF (jA hoth hsz2))
 clear hbF hoth hsz2 hWF x0 x1 x2 x3 y0 y1 y2 y3 f0 f1 f2 f3 hb2
 have hgw := HE.out.2.2.2.1
 refine bodyPost_ret (v := .agg #[.int .i64 e.index, .int .i64 e.term, .int .i64 e.kind, .slice A1 n c1]) ?_ rfl ⟨A1, c1, rfl, ?_, by rw [hgw]; exact HF.out.1⟩
 · simp only [results, hres]
   go_simp
 · refine (SlT.kept HB1.out.1 fun k hk _ => HF.out.2.1 k ?_).mono fun k hk => ⟨Nat.le_trans HE.out.1.size hk.1, by rw [HF.out.2.2]; exact hk.2⟩
   have := hk.1; have := HE.out.2.2.2.2; omega
theorem EntsT.at_ {w : World} {T : Nat → Prop} {A : Option Addr} {m c : Nat} {l : List En} (h : EntsT w T (.slice A m c) l) (i : Nat) (hi : i < l.length) :
   ∃ b off Ad cd, A = some ⟨b, off, none⟩ ∧ T b ∧ w.cell? ⟨b, off + i * 4, none⟩ = some (.int .i64 l[i].index) ∧ w.cell? ⟨b, off + i * 4 + 1, none⟩ = some (.int .i64 l[i].term) ∧
     w.cell? ⟨b, off + i * 4 + 2, none⟩ = some (.int .i64 l[i].kind) ∧ w.cell? ⟨b, off + i * 4 + 3, none⟩ = some (.slice Ad l[i].data.length cd) ∧ SlT w T (.slice Ad l[i].data.length cd) l[i].data := by
 obtain ⟨cs, hr, he⟩ := h
 obtain ⟨-, -, -, b, off, rfl, hb, hc⟩ := hr.at_ (by omega)
 obtain ⟨h0, h1, h2, u, hu, hs⟩ := he i hi
 have hs' := hs
 obtain ⟨Ad, cd, rfl, _⟩ := hs
 exact ⟨b, off, Ad, cd, rfl, hb, hc _ _ h0, hc _ _ h1, hc _ _ h2, hc _ _ hu, hs'⟩
theorem EntsT.len_ {w : World} {T : Nat → Prop} {A : Option Addr} {n c : Nat} {l : List En} (h : EntsT w T (.slice A n c) l) : n = l.length ∧ n ≤ c ∧ c ≤ 9223372036854775807 := by
 obtain ⟨cs, h, _⟩ := h
 obtain ⟨A', c', hv, h1, h2⟩ := h.form
 injection hv with e1 e2 e3
 subst e2; subst e3
 exact ⟨rfl, h1, h2⟩
set_option maxHeartbeats 8000000 in
theorem behind_g (B : Nat) (v0 : Value) (l0 : List En) (A : Option Addr) (n c : Nat) (l : List En) (w : World) (hB : B ≤ w.heap.size) (h0 : OwnE w B (fun k => B ≤ k) 151 v0 l0) (h : EntsT w (fun k => k < B) (.slice A n c) l) (hs : SmallE 1000000 100000000 l) (hs0 : l0.length ≤ 1000000) :
   Calls Tryz.prog 111 #[v0, .slice A n c] w fun y w' => ∃ v, y = .returned v ∧ OwnE w' B (fun k => B ≤ k) 151 v (l0 ++ l) ∧ Below B w w' := by
 obtain ⟨hn, hnc, hcm⟩ := h.len_
 have in1 : (n : Int) ≤ 9223372036854775807 := by omega
 have HH := jI (jA h (jA hn (jA hs hB)))
 have H0 := jI (jA h0 hs0)
 obtain ⟨A0, c0, rfl, -, -⟩ := h0.form rfl
 clear h hnc hcm hs hn hB h0 hs0
 go_enter Tryz.func111, Tryz.ntmps111
 go_wp2_with fail
 go_loopw [0, 9] (fun v ii wr => ∃ (j : Nat), j ≤ n ∧ ii = .int .i64 (j : Int) ∧ OwnE wr B (fun k => B ≤ k) 151 v (l0 ++ l.take j) ∧ Below B w wr) (fun _ ii _ => n - (intOf ii).toNat)
 case atStart => exact ⟨0, Nat.zero_le _, rfl, by rw [List.take_zero, List.append_nil]; exact H0.out.1, Below.refl _ _⟩
 case round =>
   obtain ⟨j, hj, rfl, how, hbw⟩ := hrel
   have hjl : (l0 ++ l.take j).length = l0.length + j := by rw [List.length_append, List.length_take]; have := HH.out.2.1; omega
   obtain ⟨Av, cv, rfl, -, -⟩ := how.form hjl
   have HO := jI (jA how (jA hbw hjl))
   clear how hjl
   by_cases hlt : j < n
   · have ii : (j : Int) < (n : Int) := by omega
     have hkl : j < l.length := by have := HH.out.2.1; omega
     have hen := HH.out.1.move (w' := wr) (T' := fun k => k < B) (fun k hk _ => hbw.block k hk) fun _ hk => hk
     obtain ⟨bk, off, Ad, cd, rfl, hbb, y0, y1, y2, y3, hdat⟩ := hen.at_ j hkl
     have hxe : l0 ++ l.take (j + 1) = l0 ++ (l.take j ++ [l[j]]) := by rw [List.take_succ_eq_append_getElem hkl]
     have hsm := HH.out.2.2.1.2 _ (List.getElem_mem hkl)
     obtain ⟨e, he⟩ : ∃ e, e = l[j] := ⟨_, rfl⟩
     rw [← he] at y0 y1 y2 y3 hdat hxe hsm
     obtain ⟨m, hm⟩ : ∃ m, m = e.data.length := ⟨_, rfl⟩
     rw [← hm] at y3 hdat hsm
     have hB2 : B ≤ wr.heap.size := Nat.le_trans HH.out.2.2.2 hbw.size
     have hbx := below_alloc wr (.cells #[.int .i64 e.index, .int .i64 e.term, .int .i64 e.kind, .slice Ad m cd] 151)
     obtain ⟨WB, hWB⟩ : ∃ W, W = wr.alloc (.cells #[.int .i64 e.index, .int .i64 e.term, .int .i64 e.kind, .slice Ad m cd] 151) := ⟨_, rfl⟩
     have HG := jI (copied_g e Ad m cd (wr.alloc (.cells #[.int .i64 e.index, .int .i64 e.term, .int .i64 e.kind, .slice Ad m cd] 151)) (Bys.below (show Bys wr (.slice Ad m cd) e.data from hdat.mono fun k hk => Nat.lt_of_lt_of_le hk hB2) hbx) (by omega))
     have HX := jI (jA hxe (jA hm (jA hsm (jA hB2 hbx))))
     clear hdat hxe hsm he hm hbb hkl hbw hen hB2 hbx hWB
     go_wp2_with (first
       | (go_at_call 125; go_must (refine HG.out.mono ?_; rintro y w1 ⟨A1, c1, rfl, hd1, hb1⟩; have HB1 := jI (jA hd1 (HX.out.2.2.2.2.trans (hb1.mono HX.out.2.2.2.2.size))); clear hd1 hb1))
       | (at_builtin; go_must (refine wpList_pushE (B := B) (Q := fun k => B ≤ k) (t := 151) (l := l0 ++ l.take j) ((HO.out.1.more HB1.out.2).more (below_alloc w1 _)) rfl _ _ 29 Tryz.underlying29 info_ent rfl rfl w1.heap.size e A1 c1 rfl ?c0 ?c1 ?c2 ?c3 ?c4)))
     case c0 => rw [← HX.out.2.1]; exact heap_alloc_new w1 _
     case c1 =>
       rw [← HX.out.2.1]
       refine (SlT.kept HB1.out.1 fun k hk _ => heap_alloc_old _ _ hk.2).mono fun k hk => ⟨?_, by rw [World.size_alloc]; have := hk.2; omega, fun e => ?_⟩
       · have h1 := hk.1; rw [World.size_alloc] at h1; have := HX.out.2.2.2.1; omega
       · have h1 := (HO.out.1.lt k e).2
         have h2 := hk.1
         rw [World.size_alloc] at h2
         omega
     case c2 => have h1 := HO.out.2.2; have h2 := HH.out.2.2.1.1; have h3 := HH.out.2.1; have h4 := H0.out.2; omega
     case c3 => have h1 := HX.out.2.2.2.1; have h2 := HB1.out.2.size; simp only [World.size_alloc]; omega
     case c4 =>
       intro v' w' ho' hg' _
       have hb2 : Below B w w1 := HO.out.2.1.trans (HB1.out.2.mono HX.out.2.2.2.1)
       have hB3 : B ≤ w1.heap.size := Nat.le_trans HX.out.2.2.2.1 HB1.out.2.size
       have hb3 : Below B w w' := (hb2.alloc hB3 _).grown hg' (by simp only [World.size_alloc]; omega) fun k hk => (HO.out.1.lt k hk).1
       rw [← HX.out.1] at ho'
       have HF := jI (jA ho' hb3)
       clear ho' hg' hb3 hb2 hB3
       go_wp2_with fail
       go_roundw
       case rel => exact ⟨j + 1, by omega, by go_num, HF.out.1, HF.out.2⟩
       case measure => simp [intOf]; omega
   · obtain rfl : j = n := by omega
     have ii : ¬ (j : Int) < (j : Int) := by omega
     go_wp2_with fail
     go_ret
     refine ⟨_, rfl, ?_, HO.out.2.1⟩
     have h1 := HO.out.1
     rw [List.take_of_length_le (by have := HH.out.2.1; omega)] at h1
     exact h1
end
section
theorem behind_nil (A : Option Addr) (n c : Nat) (l : List En) (w : World) (h : EntsT w (fun k => k < w.heap.size) (.slice A n c) l) (hs : SmallE 1000000 100000000 l) :
   Calls Tryz.prog 111 #[.slice none 0 0, .slice A n c] w fun y w' => ∃ A1 c1, y = .returned (.slice A1 n c1) ∧ OwnE w' w.heap.size (fun k => w.heap.size ≤ k) 151 (.slice A1 n c1) l ∧ Below w.heap.size w w' := by
 have hn := h.len_.1
 refine (behind_g w.heap.size (.slice none 0 0) [] A n c l w (Nat.le_refl _) (OwnE.nil_ _ _ _ _) h hs (Nat.zero_le _)).mono ?_
 rintro y w' ⟨v, rfl, ho, hb⟩
 rw [List.nil_append] at ho
 obtain ⟨A1, c1, rfl, -, -⟩ := ho.form hn.symm
 exact ⟨A1, c1, rfl, ho, hb⟩
theorem OwnE.fents {w w1 WF : World} {B : Nat} {v : Value} {l : List En} {t : TypeId} (h : OwnE w1 B (fun k => B ≤ k) t v l) (hB : w.heap.size ≤ B) (hk : ∀ k, B ≤ k → k < w1.heap.size → WF.heap[k]? = w1.heap[k]?) (hz : w1.heap.size ≤ WF.heap.size) (hok : ∀ e ∈ l, e.ok) : FEnts w WF v l := by
 refine ⟨(h.entsT (fun k => B ≤ k ∧ k < w1.heap.size) (fun _ h1 h2 => ⟨h1, h2⟩) fun _ h1 h2 => ⟨h1, h2⟩).move (fun k hk' _ => hk k hk'.1 hk'.2) fun k hk' => ⟨Nat.le_trans hB hk'.1, Nat.lt_of_lt_of_le hk'.2 hz⟩, hok⟩
end
section
theorem fromE_cases (l : Lg) (i most : Int) : (mayE l = false ∧ fromE l i most = []) ∨ (mayE l = true ∧ i ≤ l.base ∧ fromE l i most = []) ∨ (mayE l = true ∧ ¬ i ≤ l.base ∧ l.base + (l.l.length : Int) < i ∧ fromE l i most = []) ∨
   (mayE l = true ∧ ¬ i ≤ l.base ∧ ¬ l.base + (l.l.length : Int) < i ∧ most ≤ 0 ∧ fromE l i most = []) ∨ (mayE l = true ∧ ¬ i ≤ l.base ∧ ¬ l.base + (l.l.length : Int) < i ∧ ¬ most ≤ 0 ∧ fromE l i most = (l.l.drop (i - l.base - 1).toNat).take most.toNat) := by
 unfold fromE
 cases hm : mayE l with
 | false => left; simp
 | true =>
   right
   simp only [Bool.true_eq_false, false_or, true_and, false_and]
   by_cases c1 : i ≤ l.base
   · left; exact ⟨c1, if_pos c1⟩
   · right
     rw [if_neg c1]
     by_cases c2 : l.base + (l.l.length : Int) < i
     · left; exact ⟨c1, c2, by rw [List.drop_eq_nil_of_le (by omega), List.take_nil]⟩
     · right
       by_cases c3 : most ≤ 0
       · left; exact ⟨c1, c2, c3, by rw [show most.toNat = 0 from by omega]; rfl⟩
       · right; exact ⟨c1, c2, c3, rfl⟩
theorem EntsT.front {w : World} {T : Nat → Prop} {A : Option Addr} {m c : Nat} {l : List En} (h : EntsT w T (.slice A m c) l) {k : Nat} (hk : k ≤ m) : EntsT w T (.slice A k c) (l.take k) := by
 have hl := h.len_.1
 obtain ⟨cs, hr, he⟩ := h
 have hkl : (l.take k).length = k := by rw [List.length_take]; omega
 refine ⟨cs.take (k * 4), by rw [hkl]; exact hr.front (by omega), fun j hj => ?_⟩
 rw [hkl] at hj
 obtain ⟨h0, h1, h2, u, h3, h4⟩ := he j (by omega)
 have e0 : j * 4 + 3 < k * 4 := by omega
 refine ⟨?_, ?_, ?_, u, ?_, ?_⟩
 · rw [List.getElem?_take, if_pos (by omega), List.getElem_take]; exact h0
 · rw [List.getElem?_take, if_pos (by omega), List.getElem_take]; exact h1
 · rw [List.getElem?_take, if_pos (by omega), List.getElem_take]; exact h2
 · rw [List.getElem?_take, if_pos (by omega)]; exact h3
 · rw [List.getElem_take]; exact h4
set_option maxHeartbeats 8000000 in
theorem From_g (l : Lg) (A : Option Addr) (n c : Nat) (i most : Int) (w : World) (h : Inp l A n c w) (r : List En) (hr : r = fromE l i most) (q : Nat) (hq0 : q = r.length) :
   Calls Tryz.prog 77 #[.agg #[.int .i64 l.base, .int .i64 l.term, .slice A n c], .int .i64 i, .int .i64 most] w fun y w' => ∃ A1 c1, y = .returned (.slice A1 q c1) ∧ FEnts w w' (.slice A1 q c1) r ∧ Below w.heap.size w w' := by
 obtain ⟨W1, g, hW1, hg, hb1, hq, hsz⟩ := one_box w (.cells #[.int .i64 l.base, .int .i64 l.term, .slice A n c] 31)
 have HW := jI (jA hW1 hg)
 have HE := jI (jA hb1 (jA hq hsz))
 have HI := jI (h.below hb1)
 have HCB := jI (show ∀ W, Below W1.heap.size W1 W → W.heap[g]? = some (.cells #[.int .i64 l.base, .int .i64 l.term, .slice A n c] 31 (0, 0)) from fun W hW => (hW.block g (obj_lt hq)).trans hq)
 have HCL := jI (show ∀ W, Below W1.heap.size W1 W → W.cell? ⟨g, 0, none⟩ = some (.int .i64 l.base) ∧ W.cell? ⟨g, 1, none⟩ = some (.int .i64 l.term) ∧ W.cell? ⟨g, 2, none⟩ = some (.slice A n c) from fun W hW => cells3 (HCB.out W hW))
 obtain ⟨x0, x1, x2⟩ := cells3 hq
 have hl := h.len
 have hni : FEnts w w (.slice none 0 0) [] → True := fun _ => trivial
 have hnil : ∀ W, FEnts w W (.slice none 0 0) [] := fun W => ⟨⟨[], RowT.nil_ _ _ _, fun j h => by simp at h⟩, fun e he => by cases he⟩
 have HNIL := jI hnil
 rcases fromE_cases l i most with ⟨hm, hf⟩ | ⟨hm, c1, hf⟩ | ⟨hm, c1, c2, hf⟩ | ⟨hm, c1, c2, c3, hf⟩ | ⟨hm, c1, c2, c3, hf⟩
 · have CC := jI (HI.out.bad hm)
   obtain rfl : r = [] := hr.trans hf
   obtain rfl : q = 0 := hq0
   clear h hW1 hg hb1 hq hsz hr hm hf hl hni hnil
   go_enter Tryz.func77, Tryz.ntmps77
   go_upto_region 1 with fail
   rw [← HW.out.1, ← HW.out.2]
   go_wp2_with (go_at_call 108; go_must (refine CC.out.mono ?_; rintro y w1 ⟨rfl, hb1⟩; have HB := jI (HE.out.1.trans (hb1.mono HE.out.1.size)); clear hb1))
   go_ret
   exact ⟨none, 0, rfl, HNIL.out _, HB.out⟩
 case inr.inl | inr.inr.inl | inr.inr.inr.inl =>
   have CC := jI (HI.out.good hm)
   have hp := mayE_parts hm
   obtain rfl : r = [] := hr.trans hf
   obtain rfl : q = 0 := hq0
   obtain ⟨e1, he1⟩ : ∃ e1, e1 = l.base + (n : Int) := ⟨_, rfl⟩
   have CE := jI fun W => end_g l A n c W hp.1 (by omega) (by omega) e1 he1
   try rw [← hl.1, ← he1] at c2
   clear h hW1 hg hb1 hq hsz hr hm hf hl hni hnil hp he1
   go_enter Tryz.func77, Tryz.ntmps77
   go_upto_region 1 with fail
   rw [← HW.out.1, ← HW.out.2]
   go_wp2_with (first
     | (go_at_call 108; go_must (refine CC.out.mono ?_; rintro y w1 ⟨rfl, hb1⟩; obtain ⟨x0, x1, x2⟩ := HCL.out w1 hb1; have HB := jI hb1; clear hb1))
     | (go_at_call 109; go_must (refine (CE.out _).mono ?_; rintro y w2 ⟨rfl, hb2⟩; have HB := jI (HB.out.trans (hb2.mono HB.out.size)); clear hb2)))
   go_ret
   exact ⟨none, 0, rfl, HNIL.out _, HE.out.1.trans (HB.out.mono HE.out.1.size)⟩
 · have CC := jI (HI.out.good hm)
   have hp := mayE_parts hm
   obtain ⟨e1, he1⟩ : ∃ e1, e1 = l.base + (n : Int) := ⟨_, rfl⟩
   have CE := jI fun W => end_g l A n c W hp.1 (by omega) (by omega) e1 he1
   rw [← hl.1, ← he1] at c2
   obtain ⟨k, hk⟩ : ∃ k : Nat, i - l.base - 1 = (k : Int) := ⟨(i - l.base - 1).toNat, by omega⟩
   have CP := jI fun W => place_g l (.slice A n c) i W hp.1 (by omega) (by omega) (by omega) _ hk.symm
   rw [hk, Int.toNat_natCast] at hf
   have hkn : k < n := by omega
   obtain ⟨m, hmn, hmm⟩ : ∃ m : Nat, m ≤ n - k ∧ ((most ≤ ((n - k : Nat) : Int) ∧ most = (m : Int)) ∨ (¬ most ≤ ((n - k : Nat) : Int) ∧ m = n - k)) := by
     by_cases hx : most ≤ ((n - k : Nat) : Int)
     · exact ⟨most.toNat, by omega, Or.inl ⟨hx, by omega⟩⟩
     · exact ⟨n - k, Nat.le_refl _, Or.inr ⟨hx, rfl⟩⟩
   have hrm : r = (l.l.drop k).take m := by
     rw [hr, hf]
     rcases hmm with ⟨-, h2⟩ | ⟨h1, h2⟩
     · rw [h2, Int.toNat_natCast]
     · rw [List.take_of_length_le (by rw [List.length_drop]; omega), List.take_of_length_le (by rw [List.length_drop]; omega)]
   obtain rfl : q = m := by rw [hq0, hrm, List.length_take, List.length_drop]; omega
   have hrow := (HI.out.e.drop_ (Nat.le_of_lt hkn)).1
   rw [if_neg (by omega)] at hrow
   obtain ⟨bk, off, hA⟩ : ∃ bk off, A = some ⟨bk, off, none⟩ := by
     obtain ⟨bk, off, _, _, hA, _⟩ := h.e.at_ k (by omega)
     exact ⟨bk, off, hA⟩
   subst hA
   rw [show Option.map (fun x : Addr => x.add (k * 4)) (some ⟨bk, off, none⟩) = some ⟨bk, off + k * 4, none⟩ from by simp [Addr.add]] at hrow
   have HCF := jI fun W (hW : Below w.heap.size w W) => show EntsT W (fun b => b < W.heap.size) (.slice (some ⟨bk, off + k * 4, none⟩) q (c - k)) r from by
     have h1 := (h.e.drop_ (Nat.le_of_lt hkn)).below hW
     rw [if_neg (by omega), show Option.map (fun x : Addr => x.add (k * 4)) (some ⟨bk, off, none⟩) = some ⟨bk, off + k * 4, none⟩ from by simp [Addr.add]] at h1
     rw [hrm]
     exact h1.1.front hmn
   have HOK := jI (show ∀ e ∈ r, e.ok from fun e he => by rw [hrm] at he; exact h.e.2 e (List.mem_of_mem_drop (List.mem_of_mem_take he)))
   have HSM := jI (show SmallE 1000000 100000000 r from ⟨by rw [← hq0]; omega, fun e he => by rw [hrm] at he; exact h.s.2 e (List.mem_of_mem_drop (List.mem_of_mem_take he))⟩)
   have s1 : (k : Int) ≤ (n : Int) := by omega
   have s2 : (n : Int) ≤ (c : Int) := by omega
   have s3 : (0 : Int) ≤ (k : Int) := by omega
   have s4 : ((n - k : Nat) : Int) ≤ ((c - k : Nat) : Int) := by omega
   have s5 : (q : Int) ≤ ((n - k : Nat) : Int) := by omega
   have s6 : (0 : Int) ≤ (q : Int) := by omega
   have s7 : ¬ c = k := by omega
   have s8 : (k : Int) ≤ (c : Int) := by omega
   have HGW := jI (show w.heap.size ≤ g by omega)
   clear h hW1 hg hb1 hq hsz hr hm hf hl hni hnil hp he1 hk hrm hrow hkn hq0
   go_enter Tryz.func77, Tryz.ntmps77
   go_upto_region 1 with fail
   rw [← HW.out.1, ← HW.out.2]
   go_upto_region 3 with (first
     | (go_at_call 108; go_must (refine CC.out.mono ?_; rintro y w1 ⟨rfl, hb1⟩; obtain ⟨x0, x1, x2⟩ := HCL.out w1 hb1; have HB := jI hb1; clear hb1))
     | (go_at_call 109; go_must (refine (CE.out _).mono ?_; rintro y w2 ⟨rfl, hb2⟩; have HB := jI (HB.out.trans (hb2.mono HB.out.size)); clear hb2)))
   have hd0 : Below w.heap.size w w2.drew := HE.out.1.trans (HB.out.drew.mono HE.out.1.size)
   have HD := jI (show Below W1.heap.size W1 w2.drew from HB.out.drew)
   refine wp_region_held_drew (S := fun W => Below w.heap.size w W) (by kernel_rfl) hd0 (fun hHeld => ?_)
   clear x0 x1 x2
   refine wpAnyH_take (i := 0) (oi := { dst := Option.some 26, op := Op.fieldAddr 31 (Operand.tmp 3) 2, type := 0, pos := "entry.go:100", after := #[], guard := Option.none }) (v := .pointer (some ⟨g, 2, none⟩)) rfl (by kernel_rfl) (by kernel_rfl) (by kernel_rfl) (fun _ _ _ h => h) (Or.inl ⟨by rfl, ?_⟩) hHeld ?_
   · intro W hSw
     go_simp
   simp only [Act.put, qA, qB, qC]
   refine wpAnyH_take (i := 3) (oi := { dst := Option.some 29, op := Op.move (Operand.tmp 1), type := 3, pos := "entry.go:100", after := #[], guard := Option.none }) (v := .int .i64 i) rfl (by kernel_rfl) (by kernel_rfl) (by kernel_rfl) (fun _ _ _ h => h) (Or.inl ⟨by rfl, ?_⟩) hHeld ?_
   · intro W hSw
     go_simp
   simp only [Act.put, qA, qB, qC]
   refine wpAnyH_ready (rs := [1, 2]) (by kernel_rfl) (by simp) ?_
   refine AllReadyH.cons (o := { dst := Option.some 27, op := Op.load 29 (Operand.tmp 26), type := 29, pos := "entry.go:100", after := #[{ on := 0, ground := Ground.data }], guard := Option.none }) rfl (fun K hK => ?o1) (AllReadyH.cons (o := { dst := Option.some 28, op := Op.load 31 (Operand.tmp 3), type := 31, pos := "entry.go:100", after := #[], guard := Option.none }) rfl (fun K hK => ?o2) AllReadyH.nil)
   case' o1 =>
     obtain ⟨z0, z1, z2⟩ := HCL.out _ HD.out
     go_simp
     refine hK.out _ _ hd0 (fun hHeld2 => ?_)
     clear hK K
     refine wpAnyH_ready (rs := [2]) (by kernel_rfl) (by simp) ?_
     refine AllReadyH.cons (o := { dst := Option.some 28, op := Op.load 31 (Operand.tmp 3), type := 31, pos := "entry.go:100", after := #[], guard := Option.none }) rfl (fun K hK => ?_) AllReadyH.nil
     go_simp
     refine hK.out _ _ hd0 (fun hHeld3 => ?_)
     clear hK K z0 z1 z2
     refine wpAnyH_ready (rs := [4]) (by kernel_rfl) (by simp) ?_
     refine AllReadyH.cons (o := { dst := Option.some 30, op := Op.call { callee := Callee.value (Operand.func 110), args := #[Operand.tmp 28, Operand.tmp 29], argTypes := #[31, 3] }, type := 3, pos := "entry.go:100", after := #[{ on := 2, ground := Ground.data }, { on := 3, ground := Ground.data }], guard := Option.none }) rfl (fun K hK => ?_) AllReadyH.nil
     go_simp
     refine (CP.out _).mono ?_
     rintro y w3 ⟨rfl, hb3⟩
     have hb3 : Below W1.heap.size W1 w3 := HD.out.trans (hb3.mono HD.out.size)
     have H3 := jI hb3
     refine hK.out _ _ (HE.out.1.trans (hb3.mono HE.out.1.size)) (fun hHeld4 => ?_)
     clear hK K hHeld hHeld2 hHeld3 hb3
     have hHeld := hHeld4
     clear hHeld4
   case' o2 =>
     obtain ⟨z0, z1, z2⟩ := HCL.out _ HD.out
     go_simp
     refine hK.out _ _ hd0 (fun hHeld2 => ?_)
     clear hK K
     refine wpAnyH_ready (rs := [1, 4]) (by kernel_rfl) (by simp) ?_
     refine AllReadyH.cons (o := { dst := Option.some 27, op := Op.load 29 (Operand.tmp 26), type := 29, pos := "entry.go:100", after := #[{ on := 0, ground := Ground.data }], guard := Option.none }) rfl (fun K hK => ?p1) (AllReadyH.cons (o := { dst := Option.some 30, op := Op.call { callee := Callee.value (Operand.func 110), args := #[Operand.tmp 28, Operand.tmp 29], argTypes := #[31, 3] }, type := 3, pos := "entry.go:100", after := #[{ on := 2, ground := Ground.data }, { on := 3, ground := Ground.data }], guard := Option.none }) rfl (fun K hK => ?p2) AllReadyH.nil)
   case' p1 =>
     go_simp
     refine hK.out _ _ hd0 (fun hHeld3 => ?_)
     clear hK K z0 z1 z2
     refine wpAnyH_ready (rs := [4]) (by kernel_rfl) (by simp) ?_
     refine AllReadyH.cons (o := { dst := Option.some 30, op := Op.call { callee := Callee.value (Operand.func 110), args := #[Operand.tmp 28, Operand.tmp 29], argTypes := #[31, 3] }, type := 3, pos := "entry.go:100", after := #[{ on := 2, ground := Ground.data }, { on := 3, ground := Ground.data }], guard := Option.none }) rfl (fun K hK => ?_) AllReadyH.nil
     go_simp
     refine (CP.out _).mono ?_
     rintro y w3 ⟨rfl, hb3⟩
     have hb3 : Below W1.heap.size W1 w3 := HD.out.trans (hb3.mono HD.out.size)
     have H3 := jI hb3
     refine hK.out _ _ (HE.out.1.trans (hb3.mono HE.out.1.size)) (fun hHeld4 => ?_)
     clear hK K hHeld hHeld2 hHeld3 hb3
     have hHeld := hHeld4
     clear hHeld4
   case' p2 =>
     clear z0 z1 z2
     go_simp
     refine (CP.out _).mono ?_
     rintro y w3 ⟨rfl, hb3⟩
     have hb3 : Below W1.heap.size W1 w3 := HD.out.trans (hb3.mono HD.out.size)
     have H3 := jI hb3
     refine hK.out _ _ (HE.out.1.trans (hb3.mono HE.out.1.size)) (fun hHeld3 => ?_)
     clear hK K hHeld
     obtain ⟨z0, z1, z2⟩ := HCL.out _ hb3
     refine wpAnyH_ready (rs := [1]) (by kernel_rfl) (by simp) ?_
     refine AllReadyH.cons (o := { dst := Option.some 27, op := Op.load 29 (Operand.tmp 26), type := 29, pos := "entry.go:100", after := #[{ on := 0, ground := Ground.data }], guard := Option.none }) rfl (fun K hK => ?_) AllReadyH.nil
     go_simp
     refine hK.out _ _ (HE.out.1.trans (hb3.mono HE.out.1.size)) (fun hHeld4 => ?_)
     clear hK K z0 z1 z2 hHeld2 hHeld3 hb3
     have hHeld := hHeld4
     clear hHeld4
   all_goals
     clear hd0
     refine wpAnyH_take (i := 5) (oi := { dst := Option.some 31, op := Op.slice 29 (Operand.tmp 27) (Option.some (Operand.tmp 30)) Option.none Option.none, type := 29, pos := "entry.go:100", after := #[{ on := 1, ground := Ground.data }, { on := 4, ground := Ground.data }], guard := Option.none }) (v := .slice (some ⟨bk, off + k * 4, none⟩) (n - k) (c - k)) rfl (by kernel_rfl) (by kernel_rfl) (by kernel_rfl) (fun _ _ _ h => h) (Or.inl ⟨by rfl, ?_⟩) hHeld ?_
     · intro W hSw
       go_simp
     simp only [Act.put, qA, qB, qC]
     refine wpAnyH_take (i := 6) (oi := { dst := Option.some 32, op := Op.fieldAddr 31 (Operand.tmp 3) 2, type := 0, pos := "entry.go:100", after := #[{ on := 0, ground := Ground.phase }, { on := 1, ground := Ground.phase }, { on := 2, ground := Ground.phase }, { on := 3, ground := Ground.phase }, { on := 4, ground := Ground.phase }, { on := 5, ground := Ground.phase }], guard := Option.none }) (v := .pointer (some ⟨g, 2, none⟩)) rfl (by kernel_rfl) (by kernel_rfl) (by kernel_rfl) (fun _ _ _ h => h) (Or.inl ⟨by rfl, ?_⟩) hHeld ?_
     · intro W hSw
       go_simp
     simp only [Act.put, qA, qB, qC]
     have hS := HCB.out _ H3.out
     have f2 := frozen_own hS 2
     obtain ⟨z0, z1, z2⟩ := cells3 hS
     refine wpAnyH_ready (rs := [7]) (by kernel_rfl) (by simp) ?_
     refine AllReadyH.cons (o := { dst := Option.none, op := Op.store 29 (Operand.tmp 32) (Operand.tmp 31), type := 0, pos := "entry.go:100", after := #[{ on := 6, ground := Ground.data }, { on := 5, ground := Ground.data }, { on := 4, ground := Ground.chain }, { on := 0, ground := Ground.phase }, { on := 1, ground := Ground.phase }, { on := 2, ground := Ground.phase }, { on := 3, ground := Ground.phase }, { on := 4, ground := Ground.phase }, { on := 5, ground := Ground.phase }], guard := Option.none }) rfl (fun K hK => ?_) AllReadyH.nil
     go_simp
     have hqF := set2_own (v := .slice (some ⟨bk, off + k * 4, none⟩) (n - k) (c - k)) hS
     obtain ⟨WF, hWF⟩ : ∃ W, W = w3.setCell ⟨g, 2, none⟩ (.slice (some ⟨bk, off + k * 4, none⟩) (n - k) (c - k)) := ⟨_, rfl⟩
     have hbF : Below w.heap.size w WF := by rw [hWF]; exact (HE.out.1.trans (H3.out.mono HE.out.1.size)).setCell (show w.heap.size ≤ g from HGW.out) _
     rw [← hWF] at hqF ⊢
     have HF := jI hbF
     refine hK.out _ _ hbF (fun hHeld2 => ?_)
     clear hK K hHeld hHeld2 hWF hbF f2 z0 z1 z2 hS
     obtain ⟨z0, z1, z2⟩ := cells3 hqF
     clear hqF
     refine wpAnyH_done (by kernel_rfl) ?_ _
     have HBN := jI (behind_nil (some ⟨bk, off + k * 4, none⟩) q (c - k) r WF (HCF.out WF HF.out) HSM.out)
     obtain ⟨N, hN⟩ : ∃ N, N = n - k := ⟨_, rfl⟩
     rw [← hN] at z2 hmm hmn s4 s5
     rcases hmm with ⟨t1, rfl⟩ | ⟨t1, rfl⟩
     all_goals
       clear hN
       go_wp2_with (go_at_call 111; go_must (refine HBN.out.mono ?_; rintro y w5 ⟨A5, c5, rfl, ho5, hb5⟩; have H5 := jI (jA ho5 hb5); clear ho5 hb5))
       go_ret
       exact ⟨A5, c5, rfl, H5.out.1.fents HF.out.size (fun k _ _ => rfl) (Nat.le_refl _) HOK.out, HF.out.trans (H5.out.2.mono HF.out.size)⟩
end
end Go.Proofs.YtncaefocijainaaGreatDoor.pk
