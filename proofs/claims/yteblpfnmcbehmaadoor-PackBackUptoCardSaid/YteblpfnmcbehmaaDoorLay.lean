/-
  The law's own 'lay': a thing laid behind.
-/
import Derived.Test.YteblpfnmcbehmaaDoorSure
namespace Go.Proofs.YteblpfnmcbehmaaDoor.pk
open Go Go.RowKit
set_option maxRecDepth 100000

theorem WR.alloc {w : World} {B p : Nat} {v : Value} {bs : List UInt8} (h : WR w B p v bs) (o : Obj) : WR (w.alloc o) B p v bs :=
  ⟨h.low, (Below.heap_alloc w o p h.lt).trans h.blk, h.own.alloc o⟩
theorem KP.ofAlloc {w : World} {B p : Nat} (o : Obj) (hB : B ≤ w.heap.size) : KP B p w (w.alloc o) := ⟨(Below.refl _ _).alloc hB o, (Lib.OthersKept.refl _ _ _).alloc o⟩
theorem Sl.alloc {w : World} {B : Nat} {v : Value} {bs : List UInt8} (h : Sl w B v bs) (hB : B ≤ w.heap.size) (o : Obj) : Sl (w.alloc o) B v bs := h.keep fun q hq => World.cell?_alloc_lt w o q (by omega)

theorem lay_any (B p : Nat) (v : Value) (bs : List UInt8) (kd n : Int) (A : Option Addr) (len c : Nat) (t : List UInt8) (B1 : Nat) (hB1 : B1 ≤ B) (w : World) (hs : Std w) (hB6 : 6 ≤ B) (h : WR w B p v bs)
    (hn0 : -9223372036854775808 ≤ n) (hn1 : n ≤ 9223372036854775807) (ht : Sl w B1 (.slice A len c) t) (hl : bs.length + 23 + t.length ≤ 140737488355328) :
    Calls Tryd.prog 24 #[.pointer (some ⟨p, 0, none⟩), .agg #[.int .i64 kd, .int .i64 n, .slice A len c]] w fun x w' => ∃ v', x = .returned (.pointer (some ⟨p, 0, none⟩)) ∧ WR w' B p v' (bs ++ layB kd n t) ∧ KP B p w w' := by
  have hB := h.hB
  have h1 := h.alloc (.cells #[.int .i64 kd, .int .i64 n, .slice A len c] 52)
  have k1 : KP B p w (w.alloc (.cells #[.int .i64 kd, .int .i64 n, .slice A len c] 52)) := KP.ofAlloc _ hB
  have s1 := hs.below hB6 k1.below
  have t1 := ht.alloc (by omega) (.cells #[.int .i64 kd, .int .i64 n, .slice A len c] 52)
  have hcv := conv_bytes t1
  have H1 := Lib.hid h1
  have K1 := Lib.hid k1
  have S1 := Lib.hid s1
  have T1 := Lib.hid t1
  clear h1 k1 s1 t1 h ht hs
  have hq : five kd = 0 ∨ five kd = 1 ∨ five kd = 2 ∨ five kd = 3 ∨ five kd = 4 := by have := five_lt kd; omega
  have hwr : IntKind.u64.wrap kd = kd % 18446744073709551616 := IntKind.wrap_u64 kd
  have hf : (five kd : Int) = kd % 18446744073709551616 % 5 := by unfold five; omega
  have ha0 : 0 ≤ kd % 18446744073709551616 := by omega
  have ha1 : kd % 18446744073709551616 < 18446744073709551616 := by omega
  generalize hgen : kd % 18446744073709551616 = a at hwr hf ha0 ha1
  clear hgen
  rcases hq with hq | hq | hq | hq | hq
  · have e2 : a % 5 = 0 := by omega
    have HL := Lib.hid (show layB kd n t = lUint (n % 18446744073709551616).toNat by unfold layB; rw [if_pos hq])
    have hwn : IntKind.u64.wrap n = ((n % 18446744073709551616).toNat : Int) := by rw [IntKind.wrap_u64]; omega
    have hlt : (n % 18446744073709551616).toNat < 18446744073709551616 := by omega
    generalize (n % 18446744073709551616).toNat = u at hwn hlt HL
    clear hq hf
    go_enter Tryd.func24, Tryd.ntmps24
    go_wp2_with fail
    refine (Writer_Uint B p u hlt v bs _ S1.out hB6 H1.out (by omega)).mono ?_
    rintro x w' ⟨v', rfl, h2, k2⟩
    have H2 := Lib.hid h2
    have K2 := Lib.hid k2
    clear h2 k2
    go_wp2
    go_ret
    exact ⟨v', rfl, by rw [HL.out]; exact H2.out, K1.out.trans K2.out⟩
  · have e2 : a % 5 = 1 := by omega
    have HL := Lib.hid (show layB kd n t = lInt n by unfold layB; rw [if_neg (by omega)]; rw [if_pos hq])
    clear hq hf
    go_enter Tryd.func24, Tryd.ntmps24
    go_wp2_with fail
    refine (Writer_Int B p n hn0 hn1 v bs _ S1.out hB6 H1.out (by omega)).mono ?_
    rintro x w' ⟨v', rfl, h2, k2⟩
    have H2 := Lib.hid h2
    have K2 := Lib.hid k2
    clear h2 k2
    go_wp2
    go_ret
    exact ⟨v', rfl, by rw [HL.out]; exact H2.out, K1.out.trans K2.out⟩
  · have e2 : a % 5 = 2 := by omega
    have HL := Lib.hid (show layB kd n t = lBool (decide (0 < n)) by unfold layB; rw [if_neg (by omega)]; rw [if_neg (by omega)]; rw [if_pos hq])
    clear hq hf
    go_enter Tryd.func24, Tryd.ntmps24
    go_wp2_with fail
    refine (Writer_Bool B p _ v bs _ H1.out (by omega)).mono ?_
    rintro x w' ⟨v', rfl, h2, k2⟩
    have H2 := Lib.hid h2
    have K2 := Lib.hid k2
    clear h2 k2
    go_wp2
    go_ret
    exact ⟨v', rfl, by rw [HL.out]; exact H2.out, K1.out.trans K2.out⟩
  · have e2 : a % 5 = 3 := by omega
    have HL := Lib.hid (show layB kd n t = lText t by unfold layB; rw [if_neg (by omega)]; rw [if_neg (by omega)]; rw [if_neg (by omega)]; rw [if_pos hq])
    have hts : (⟨t.toArray⟩ : ByteArray).size = t.length := by simp [ByteArray.size]
    have HTS := Lib.hid hts
    clear hts
    clear hq hf
    go_enter Tryd.func24, Tryd.ntmps24
    go_wp2_with fail
    refine (Writer_Text B p ⟨t.toArray⟩ (by rw [HTS.out]; omega) v bs _ S1.out hB6 H1.out (by rw [HTS.out]; omega)).mono ?_
    rintro x w' ⟨v', rfl, h2, k2⟩
    have H2 := Lib.hid h2
    have K2 := Lib.hid k2
    clear h2 k2
    go_wp2
    go_ret
    exact ⟨v', rfl, by rw [HL.out]; exact H2.out, K1.out.trans K2.out⟩
  · have e2 : a % 5 = 4 := by omega
    have HL := Lib.hid (show layB kd n t = lBytes t by unfold layB; rw [if_neg (by omega)]; rw [if_neg (by omega)]; rw [if_neg (by omega)]; rw [if_neg (by omega)])
    clear hq hf
    go_enter Tryd.func24, Tryd.ntmps24
    go_wp2_with fail
    refine (Writer_Bytes B p A len c t B1 hB1 v bs _ S1.out hB6 H1.out T1.out (by omega)).mono ?_
    rintro x w' ⟨v', rfl, h2, k2⟩
    have H2 := Lib.hid h2
    have K2 := Lib.hid k2
    clear h2 k2
    go_wp2
    go_ret
    exact ⟨v', rfl, by rw [HL.out]; exact H2.out, K1.out.trans K2.out⟩

end Go.Proofs.YteblpfnmcbehmaaDoor.pk
