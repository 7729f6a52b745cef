/-
  The function takeInt of the package pack: the number that bytes begin with, or the error.
-/
import Derived.Test.YteblpfnmcbehmaaDoorTake2
namespace Go.Proofs.YteblpfnmcbehmaaDoor.pk
open Go Go.RowKit
set_option maxRecDepth 100000

theorem takeInt_bare (A : Option Addr) (n c k m : Nat) (rest : List UInt8) (w : World) (hs : Std w) {B : Nat} (hB : B ≤ w.heap.size) (h : Sl w B (.slice A n c) [105]) (hr : scan 59 [] [] = (k, m, rest)) (hk : k ≠ 0) :
    Calls Tryd.prog 37 #[.slice A n c] w fun x w' => x = .returned (.tuple #[.int .i64 0, .slice none 0 0, .iface 79 (.int .i64 (k : Int))]) ∧ Below w.heap.size w w' := by
  have c1 := Lib.hid (takeLetter_ok A n c 105 [] w h)
  have HR := Lib.hid hr
  have HK := Lib.hid hk
  clear h hr hk
  go_enter Tryd.func37, Tryd.ntmps37
  go_wp2_with fail
  refine c1.out.mono ?_
  rintro x w' ⟨A1, k1, rfl, h1, rfl⟩
  have H1 := Lib.hid h1
  clear h1
  go_wp2_with (go_at_call 51; refine (takeDigits_err _ _ _ 59 _ _ hs hB H1.out (by decide) k m rest HR.out HK.out).mono ?_; rintro x w' ⟨v2, rfl, hb⟩)
  go_ret3
  exact ⟨rfl, hb⟩

theorem takeInt_plus_dig (A : Option Addr) (n c k m : Nat) (d : UInt8) (r rest : List UInt8) (w : World) (hs : Std w) {B : Nat} (hB : B ≤ w.heap.size) (h : Sl w B (.slice A n c) (105 :: d :: r)) (hd : d ≠ 45) (hr : scan 59 [] (d :: r) = (k, m, rest)) (hk : k ≠ 0) :
    Calls Tryd.prog 37 #[.slice A n c] w fun x w' => x = .returned (.tuple #[.int .i64 0, .slice none 0 0, .iface 79 (.int .i64 (k : Int))]) ∧ Below w.heap.size w w' := by
  have c1 := Lib.hid (takeLetter_ok A n c 105 (d :: r) w h)
  have HD := Lib.hid hd
  have HR := Lib.hid hr
  have HK := Lib.hid hk
  clear hr hk
  clear h hd
  go_enter Tryd.func37, Tryd.ntmps37
  go_wp2_with fail
  refine c1.out.mono ?_
  rintro x w' ⟨A1, k1, rfl, h1, rfl⟩
  obtain ⟨b0, off, rfl, hb0, hn1, hn2, hn3, hcell⟩ := h1.head
  have H1 := Lib.hid h1
  have y1 : ((d.toNat : Int) == 45) = false := by
    rw [beq_eq_false_iff_ne]; intro e; exact HD.out (UInt8.toNat_inj.1 (by show d.toNat = 45; omega))
  have i1 : (1 : Int) ≤ (r.length : Int) + 1 := by omega
  clear h1 hb0 hn1
  go_wp2_with (first | (go_at_call 51; refine (takeDigits_err _ _ _ 59 _ _ hs hB H1.out (by decide) k m rest HR.out HK.out).mono ?_; rintro x w' ⟨v2, rfl, hb⟩))
  go_ret3
  exact ⟨rfl, hb⟩

theorem takeInt_plus_sgn (A : Option Addr) (n c k m : Nat) (d : UInt8) (r rest : List UInt8) (w : World) (hs : Std w) {B : Nat} (hB : B ≤ w.heap.size) (h : Sl w B (.slice A n c) (105 :: d :: r)) (hd : d ≠ 45) (hr : scan 59 [] (d :: r) = (0, m, rest)) (v : Int) (hv : sgn m false = (k, v)) (hk : k ≠ 0) :
    Calls Tryd.prog 37 #[.slice A n c] w fun x w' => x = .returned (.tuple #[.int .i64 0, .slice none 0 0, .iface 79 (.int .i64 (k : Int))]) ∧ Below w.heap.size w w' := by
  have c1 := Lib.hid (takeLetter_ok A n c 105 (d :: r) w h)
  have HD := Lib.hid hd
  have HR := Lib.hid hr
  have HK := Lib.hid hk
  have HM := Lib.hid (scan_lt _ _ hr)
  have HS := Lib.hid hv
  clear hr hk hv
  clear h hd
  go_enter Tryd.func37, Tryd.ntmps37
  go_wp2_with fail
  refine c1.out.mono ?_
  rintro x w' ⟨A1, k1, rfl, h1, rfl⟩
  obtain ⟨b0, off, rfl, hb0, hn1, hn2, hn3, hcell⟩ := h1.head
  have H1 := Lib.hid h1
  have y1 : ((d.toNat : Int) == 45) = false := by
    rw [beq_eq_false_iff_ne]; intro e; exact HD.out (UInt8.toNat_inj.1 (by show d.toNat = 45; omega))
  have i1 : (1 : Int) ≤ (r.length : Int) + 1 := by omega
  clear h1 hb0 hn1
  go_wp2_with (first | (go_at_call 51; refine (takeDigits_ok _ _ _ 59 _ _ hs hB H1.out (by decide) m rest HR.out).mono ?_; rintro x w' ⟨A2, k2, rfl, h2, hb⟩; have H2 := Lib.hid h2; clear h2) | (go_at_call 52; refine (signed_err m k false v _ HM.out HS.out HK.out).mono ?_; rintro x w'' ⟨rfl, rfl⟩))
  go_ret3
  exact ⟨rfl, hb⟩

theorem takeInt_plus_ok (A : Option Addr) (n c m : Nat) (d : UInt8) (r rest : List UInt8) (w : World) (hs : Std w) {B : Nat} (hB : B ≤ w.heap.size) (h : Sl w B (.slice A n c) (105 :: d :: r)) (hd : d ≠ 45) (hr : scan 59 [] (d :: r) = (0, m, rest)) (v : Int) (hv : sgn m false = (0, v)) :
    Calls Tryd.prog 37 #[.slice A n c] w fun x w' => ∃ A' c', x = .returned (.tuple #[.int .i64 v, .slice A' rest.length c', .nilIface]) ∧ Sl w' B (.slice A' rest.length c') rest ∧ Below w.heap.size w w' := by
  have c1 := Lib.hid (takeLetter_ok A n c 105 (d :: r) w h)
  have HD := Lib.hid hd
  have HR := Lib.hid hr
  have HM := Lib.hid (scan_lt _ _ hr)
  have HS := Lib.hid hv
  clear hr hv
  clear h hd
  go_enter Tryd.func37, Tryd.ntmps37
  go_wp2_with fail
  refine c1.out.mono ?_
  rintro x w' ⟨A1, k1, rfl, h1, rfl⟩
  obtain ⟨b0, off, rfl, hb0, hn1, hn2, hn3, hcell⟩ := h1.head
  have H1 := Lib.hid h1
  have y1 : ((d.toNat : Int) == 45) = false := by
    rw [beq_eq_false_iff_ne]; intro e; exact HD.out (UInt8.toNat_inj.1 (by show d.toNat = 45; omega))
  have i1 : (1 : Int) ≤ (r.length : Int) + 1 := by omega
  clear h1 hb0 hn1
  go_wp2_with (first | (go_at_call 51; refine (takeDigits_ok _ _ _ 59 _ _ hs hB H1.out (by decide) m rest HR.out).mono ?_; rintro x w' ⟨A2, k2, rfl, h2, hb⟩; have H2 := Lib.hid h2; clear h2) | (go_at_call 52; refine (signed_ok m false v _ HM.out HS.out).mono ?_; rintro x w'' ⟨rfl, rfl⟩))
  go_ret3
  exact ⟨A2, k2, rfl, H2.out, hb⟩

theorem takeInt_minus_dig (A : Option Addr) (n c k m : Nat) (r rest : List UInt8) (w : World) (hs : Std w) {B : Nat} (hB : B ≤ w.heap.size) (h : Sl w B (.slice A n c) (105 :: 45 :: r)) (hr : scan 59 [] r = (k, m, rest)) (hk : k ≠ 0) :
    Calls Tryd.prog 37 #[.slice A n c] w fun x w' => x = .returned (.tuple #[.int .i64 0, .slice none 0 0, .iface 79 (.int .i64 (k : Int))]) ∧ Below w.heap.size w w' := by
  have c1 := Lib.hid (takeLetter_ok A n c 105 (45 :: r) w h)
  have HR := Lib.hid hr
  have HK := Lib.hid hk
  clear hr hk
  clear h
  go_enter Tryd.func37, Tryd.ntmps37
  go_wp2_with fail
  refine c1.out.mono ?_
  rintro x w' ⟨A1, k1, rfl, h1, rfl⟩
  obtain ⟨b0, off, rfl, hb0, hn1, hn2, hn3, hcell⟩ := h1.head
  replace hcell : w.cell? ⟨b0, off, none⟩ = some (.int .u8 45) := hcell
  have i1 : (1 : Int) ≤ (r.length : Int) + 1 := by omega
  have i2 : (r.length : Int) + 1 ≤ (k1 : Int) := by omega
  by_cases hk1 : k1 = 1
  · subst hk1
    obtain rfl : r = [] := List.eq_nil_of_length_eq_zero (by omega)
    have HT := Lib.hid h1.tail_one
    clear h1 hb0 hn1
    go_wp2_with (first | (go_at_call 51; refine (takeDigits_err _ _ _ 59 _ _ hs hB HT.out (by decide) k m rest HR.out HK.out).mono ?_; rintro x w' ⟨v2, rfl, hb⟩))
    go_ret3
    exact ⟨rfl, hb⟩
  · have HT := Lib.hid (h1.tail_more hk1)
    clear h1 hb0 hn1
    go_wp2_with (first | (go_at_call 51; refine (takeDigits_err _ _ _ 59 _ _ hs hB HT.out (by decide) k m rest HR.out HK.out).mono ?_; rintro x w' ⟨v2, rfl, hb⟩))
    go_ret3
    exact ⟨rfl, hb⟩

theorem takeInt_minus_sgn (A : Option Addr) (n c k m : Nat) (r rest : List UInt8) (w : World) (hs : Std w) {B : Nat} (hB : B ≤ w.heap.size) (h : Sl w B (.slice A n c) (105 :: 45 :: r)) (hr : scan 59 [] r = (0, m, rest)) (v : Int) (hv : sgn m true = (k, v)) (hk : k ≠ 0) :
    Calls Tryd.prog 37 #[.slice A n c] w fun x w' => x = .returned (.tuple #[.int .i64 0, .slice none 0 0, .iface 79 (.int .i64 (k : Int))]) ∧ Below w.heap.size w w' := by
  have c1 := Lib.hid (takeLetter_ok A n c 105 (45 :: r) w h)
  have HR := Lib.hid hr
  have HK := Lib.hid hk
  have HM := Lib.hid (scan_lt _ _ hr)
  have HS := Lib.hid hv
  clear hr hk hv
  clear h
  go_enter Tryd.func37, Tryd.ntmps37
  go_wp2_with fail
  refine c1.out.mono ?_
  rintro x w' ⟨A1, k1, rfl, h1, rfl⟩
  obtain ⟨b0, off, rfl, hb0, hn1, hn2, hn3, hcell⟩ := h1.head
  replace hcell : w.cell? ⟨b0, off, none⟩ = some (.int .u8 45) := hcell
  have i1 : (1 : Int) ≤ (r.length : Int) + 1 := by omega
  have i2 : (r.length : Int) + 1 ≤ (k1 : Int) := by omega
  by_cases hk1 : k1 = 1
  · subst hk1
    obtain rfl : r = [] := List.eq_nil_of_length_eq_zero (by omega)
    exact absurd HR.out (by simp [scan])
  · have HT := Lib.hid (h1.tail_more hk1)
    clear h1 hb0 hn1
    go_wp2_with (first | (go_at_call 51; refine (takeDigits_ok _ _ _ 59 _ _ hs hB HT.out (by decide) m rest HR.out).mono ?_; rintro x w' ⟨A2, k2, rfl, h2, hb⟩; have H2 := Lib.hid h2; clear h2) | (go_at_call 52; refine (signed_err m k true v _ HM.out HS.out HK.out).mono ?_; rintro x w'' ⟨rfl, rfl⟩))
    go_ret3
    exact ⟨rfl, hb⟩

theorem takeInt_minus_ok (A : Option Addr) (n c m : Nat) (r rest : List UInt8) (w : World) (hs : Std w) {B : Nat} (hB : B ≤ w.heap.size) (h : Sl w B (.slice A n c) (105 :: 45 :: r)) (hr : scan 59 [] r = (0, m, rest)) (v : Int) (hv : sgn m true = (0, v)) :
    Calls Tryd.prog 37 #[.slice A n c] w fun x w' => ∃ A' c', x = .returned (.tuple #[.int .i64 v, .slice A' rest.length c', .nilIface]) ∧ Sl w' B (.slice A' rest.length c') rest ∧ Below w.heap.size w w' := by
  have c1 := Lib.hid (takeLetter_ok A n c 105 (45 :: r) w h)
  have HR := Lib.hid hr
  have HM := Lib.hid (scan_lt _ _ hr)
  have HS := Lib.hid hv
  clear hr hv
  clear h
  go_enter Tryd.func37, Tryd.ntmps37
  go_wp2_with fail
  refine c1.out.mono ?_
  rintro x w' ⟨A1, k1, rfl, h1, rfl⟩
  obtain ⟨b0, off, rfl, hb0, hn1, hn2, hn3, hcell⟩ := h1.head
  replace hcell : w.cell? ⟨b0, off, none⟩ = some (.int .u8 45) := hcell
  have i1 : (1 : Int) ≤ (r.length : Int) + 1 := by omega
  have i2 : (r.length : Int) + 1 ≤ (k1 : Int) := by omega
  by_cases hk1 : k1 = 1
  · subst hk1
    obtain rfl : r = [] := List.eq_nil_of_length_eq_zero (by omega)
    exact absurd HR.out (by simp [scan])
  · have HT := Lib.hid (h1.tail_more hk1)
    clear h1 hb0 hn1
    go_wp2_with (first | (go_at_call 51; refine (takeDigits_ok _ _ _ 59 _ _ hs hB HT.out (by decide) m rest HR.out).mono ?_; rintro x w' ⟨A2, k2, rfl, h2, hb⟩; have H2 := Lib.hid h2; clear h2) | (go_at_call 52; refine (signed_ok m true v _ HM.out HS.out).mono ?_; rintro x w'' ⟨rfl, rfl⟩))
    go_ret3
    exact ⟨A2, k2, rfl, H2.out, hb⟩

theorem takeInt_letter (A : Option Addr) (n c : Nat) (d : UInt8) (r : List UInt8) (w : World) {B : Nat} (h : Sl w B (.slice A n c) (d :: r)) (hd : d ≠ 105) :
    Calls Tryd.prog 37 #[.slice A n c] w fun x w' => x = .returned (.tuple #[.int .i64 0, .slice none 0 0, .iface 79 (.int .i64 3)]) ∧ Below w.heap.size w w' := by
  have c1 := Lib.hid (takeLetter_form A n c 105 d r w h hd)
  have HB := Below.refl w.heap.size w
  clear h hd
  go_enter Tryd.func37, Tryd.ntmps37
  go_wp2_with (go_at_call 50; refine c1.out.mono ?_; rintro x w' ⟨rfl, rfl⟩)
  go_ret3
  exact ⟨rfl, HB⟩
theorem takeInt_end (A : Option Addr) (c : Nat) (w : World) :
    Calls Tryd.prog 37 #[.slice A 0 c] w fun x w' => x = .returned (.tuple #[.int .i64 0, .slice none 0 0, .iface 79 (.int .i64 12)]) ∧ Below w.heap.size w w' := by
  have c1 := Lib.hid (takeLetter_end A c 105 w)
  have HB := Below.refl w.heap.size w
  go_enter Tryd.func37, Tryd.ntmps37
  go_wp2_with (go_at_call 50; refine c1.out.mono ?_; rintro x w' ⟨rfl, rfl⟩)
  go_ret3
  exact ⟨rfl, HB⟩

theorem takeInt_ok (A : Option Addr) (n c : Nat) (v : Int) (bs rest : List UInt8) (w : World) (hs : Std w) {B : Nat} (hB : B ≤ w.heap.size) (h : Sl w B (.slice A n c) bs) (hr : rdInt bs = (0, v, rest)) :
    Calls Tryd.prog 37 #[.slice A n c] w fun x w' => ∃ A' c', x = .returned (.tuple #[.int .i64 v, .slice A' rest.length c', .nilIface]) ∧ Sl w' B (.slice A' rest.length c') rest ∧ Below w.heap.size w w' := by
  rcases bs with _ | ⟨d, r⟩
  · simp [rdInt] at hr
  · rw [rdInt_cons] at hr
    by_cases hd : d = 105
    · subst hd
      rw [if_pos rfl] at hr
      split at hr
      · rename_i m rest' hsc
        by_cases hg : (sgn m (r.head? = some 45)).1 = 0
        · rw [if_pos hg] at hr
          simp only [Prod.mk.injEq, true_and] at hr
          obtain ⟨hv, rfl⟩ := hr
          rcases r with _ | ⟨x, t⟩
          · simp [scan] at hsc
          · by_cases hx : x = 45
            · subst hx
              simp only [List.head?_cons, if_pos, List.tail_cons, decide_true] at hsc hg hv
              exact takeInt_minus_ok A n c m t rest' w hs hB h hsc v (Prod.ext hg hv)
            · have e1 : (decide ((x :: t).head? = some 45)) = false := by simp [hx]
              rw [e1] at hg hv
              rw [if_neg (by simp [hx])] at hsc
              exact takeInt_plus_ok A n c m x t rest' w hs hB h hx hsc v (Prod.ext hg hv)
        · rw [if_neg hg] at hr
          simp only [Prod.mk.injEq] at hr
          exact absurd hr.1 hg
      · simp at hr
    · rw [if_neg hd] at hr
      simp at hr

theorem takeInt_err (A : Option Addr) (n c k : Nat) (v : Int) (bs rest : List UInt8) (w : World) (hs : Std w) {B : Nat} (hB : B ≤ w.heap.size) (h : Sl w B (.slice A n c) bs) (hr : rdInt bs = (k, v, rest)) (hk : k ≠ 0) :
    Calls Tryd.prog 37 #[.slice A n c] w fun x w' => x = .returned (.tuple #[.int .i64 0, .slice none 0 0, .iface 79 (.int .i64 (k : Int))]) ∧ Below w.heap.size w w' := by
  rcases bs with _ | ⟨d, r⟩
  · simp only [rdInt, Prod.mk.injEq] at hr
    obtain ⟨rfl, rfl, rfl⟩ := hr
    obtain ⟨rfl, _, _⟩ := h.len
    exact takeInt_end A c w
  · rw [rdInt_cons] at hr
    by_cases hd : d = 105
    · subst hd
      rw [if_pos rfl] at hr
      split at hr
      · rename_i m rest' hsc
        by_cases hg : (sgn m (r.head? = some 45)).1 = 0
        · rw [if_pos hg] at hr
          simp only [Prod.mk.injEq] at hr
          exact absurd hr.1.symm hk
        · rw [if_neg hg] at hr
          simp only [Prod.mk.injEq] at hr
          obtain ⟨hv, _, _⟩ := hr
          rcases r with _ | ⟨x, t⟩
          · simp [scan] at hsc
          · by_cases hx : x = 45
            · subst hx
              simp only [List.head?_cons, if_pos, List.tail_cons, decide_true] at hsc hg hv
              exact takeInt_minus_sgn A n c k m t rest' w hs hB h hsc _ (Prod.ext hv rfl) hk
            · have e1 : (decide ((x :: t).head? = some 45)) = false := by simp [hx]
              rw [e1] at hg hv
              rw [if_neg (by simp [hx])] at hsc
              exact takeInt_plus_sgn A n c k m x t rest' w hs hB h hx hsc _ (Prod.ext hv rfl) hk
      · rename_i k' m rest' hsc
        simp only [Prod.mk.injEq] at hr
        obtain ⟨rfl, _, _⟩ := hr
        rcases r with _ | ⟨x, t⟩
        · exact takeInt_bare A n c _ m rest' w hs hB h hsc hk
        · by_cases hx : x = 45
          · subst hx
            simp only [List.head?_cons, if_pos, List.tail_cons] at hsc
            exact takeInt_minus_dig A n c _ m t rest' w hs hB h hsc hk
          · rw [if_neg (by simp [hx])] at hsc
            exact takeInt_plus_dig A n c _ m x t rest' w hs hB h hx hsc hk
    · rw [if_neg hd] at hr
      simp only [Prod.mk.injEq] at hr
      obtain ⟨rfl, _, _⟩ := hr
      exact takeInt_letter A n c d r w h hd

end Go.Proofs.YteblpfnmcbehmaaDoor.pk
