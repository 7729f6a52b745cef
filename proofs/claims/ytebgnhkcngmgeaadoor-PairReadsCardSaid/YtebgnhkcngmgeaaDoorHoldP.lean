/-
  The program's package pair keeps the contracts that the law PairReads asks for.
-/
import Derived.Test.YtebgnhkcngmgeaaDoorMineR
import Derived.Stop.BytesEq
namespace Go.Proofs.YtebgnhkcngmgeaaDoor.pk
open Go Go.RowKit Ieee Go.Extern
set_option maxRecDepth 100000

theorem pick2 (a b : Value) (i : Nat) (h : i < 2) : (#[a, b] : Array Value)[i]? = some (if i = 0 then a else b) := by
  rcases Nat.lt_or_ge i 1 with h1 | h1
  · obtain rfl : i = 0 := by omega
    rfl
  · obtain rfl : i = 1 := by omega
    rfl

/-- What is together ahead of place i of two. -/
def upTo (x u : Nat) (i : Nat) : Nat := if i = 0 then 0 else if i = 1 then x else x + u

set_option maxHeartbeats 2000000 in
theorem sum_two (x y u v : Nat) (hx : x + u ≤ mostN) (hy : y + v ≤ mostN) (N cap : Nat) (w : World)
    (h0 : w.cell? ⟨N, 0, none⟩ = some (.complex .f64 (fB x) (fB y))) (h1 : w.cell? ⟨N, 1, none⟩ = some (.complex .f64 (fB u) (fB v))) :
    Calls Tryd.prog 22 #[.slice (some ⟨N, 0, none⟩) 2 cap] w fun e w' => e = .returned (.tuple #[.complex .f64 (fB (x + u)) (fB (y + v)), .nilIface]) ∧ w' = w := by
  have m1 := Lib.hid fun W => may_yes x y (by omega) (by omega) W
  have m2 := Lib.hid fun W => may_yes u v (by omega) (by omega) W
  have m3 := Lib.hid fun W => may_yes (x + u) (y + v) hx hy W
  have a1 : ∀ W, (binOp .add 22 (.complex .f64 0 0) (.complex .f64 (fB x) (fB y))).run Tryd.prog W = .ok (.complex .f64 (fB x) (fB y)) W := fun W => by
    refine run_complex_sum W .add (Or.inl rfl) _ _ _ _ _ _ _ _ ?_
    have e1 := fB_add (a := 0) (b := x) (by omega) (by unfold mostN at *; omega) (by unfold mostN at *; omega)
    have e2 := fB_add (a := 0) (b := y) (by omega) (by unfold mostN at *; omega) (by unfold mostN at *; omega)
    rw [fB_zero, Nat.zero_add] at e1 e2
    unfold cSumBits floatBits
    simp only
    rw [show FloatKind.f64.format.add 0 (fB x) = some (fB x) from e1, show FloatKind.f64.format.add 0 (fB y) = some (fB y) from e2]
    rfl
  have a2 : ∀ W, (binOp .add 22 (.complex .f64 (fB x) (fB y)) (.complex .f64 (fB u) (fB v))).run Tryd.prog W = .ok (.complex .f64 (fB (x + u)) (fB (y + v))) W := fun W => by
    refine run_complex_sum W .add (Or.inl rfl) _ _ _ _ _ _ _ _ ?_
    have e1 := fB_add (a := x) (b := u) (by unfold mostN at *; omega) (by unfold mostN at *; omega) (by unfold mostN at *; omega)
    have e2 := fB_add (a := y) (b := v) (by unfold mostN at *; omega) (by unfold mostN at *; omega) (by unfold mostN at *; omega)
    unfold cSumBits floatBits
    simp only
    rw [show FloatKind.f64.format.add (fB x) (fB u) = some (fB (x + u)) from e1, show FloatKind.f64.format.add (fB y) (fB v) = some (fB (y + v)) from e2]
    rfl
  obtain ⟨p, hp⟩ : ∃ p, p = fB x := ⟨_, rfl⟩
  obtain ⟨q, hq⟩ : ∃ q, q = fB y := ⟨_, rfl⟩
  obtain ⟨r, hr⟩ : ∃ r, r = fB u := ⟨_, rfl⟩
  obtain ⟨s, hs⟩ : ∃ s, s = fB v := ⟨_, rfl⟩
  obtain ⟨j, hj⟩ : ∃ j, j = fB (x + u) := ⟨_, rfl⟩
  obtain ⟨k, hk⟩ : ∃ k, k = fB (y + v) := ⟨_, rfl⟩
  rw [← hp, ← hq] at m1 h0 a1 a2
  rw [← hr, ← hs] at m2 h1 a2
  rw [← hj, ← hk] at m3 a2
  rw [← hj, ← hk]
  clear hp hq hr hs hj hk hx hy
  have H0 := Lib.hid h0
  have H1 := Lib.hid h1
  go_enter Tryd.func22, Tryd.ntmps22
  go_wp2
  go_loopw [4, 9] (fun cc ii W => ∃ i : Nat, i ≤ 2 ∧ ii = .int .i64 (i : Int) ∧ cc = (if i = 0 then .complex .f64 0 0 else if i = 1 then .complex .f64 p q else .complex .f64 j k) ∧ W = w) (fun _ ii _ => 2 - (intOf ii).toNat)
  case atStart => exact ⟨0, by omega, rfl, rfl, by first | rfl | trivial⟩
  case round =>
    obtain ⟨i, hi, rfl, rfl, rfl⟩ := hrel
    by_cases i0 : i = 0
    · subst i0
      simp only [if_true]
      go_wp2_with (first
        | simp only [a1]
        | (go_at_call 16; refine (m1.out _).mono ?_; rintro y1 W ⟨rfl, rfl⟩))
      go_roundw
      case rel => exact ⟨1, by omega, by go_num, by simp, by first | rfl | trivial⟩
      case measure => simp [intOf]
    · by_cases i1 : i = 1
      · subst i1
        simp only [if_neg i0, if_true]
        go_wp2_with (first
          | simp only [a2]
          | (go_at_call 16; refine (m2.out _).mono ?_; rintro y1 W ⟨rfl, rfl⟩))
        go_roundw
        case rel => exact ⟨2, by omega, by go_num, by simp, by first | rfl | trivial⟩
        case measure => simp [intOf]
      · obtain rfl : i = 2 := by omega
        simp only [if_neg i0, if_neg i1]
        go_wp2_with (go_at_call 16; refine (m3.out _).mono ?_; rintro y1 W ⟨rfl, rfl⟩)
        go_ret2
        exact ⟨rfl, rfl⟩

set_option maxHeartbeats 2000000 in
theorem add_two (x y u v : Nat) (hx : x + u ≤ mostN) (hy : y + v ≤ mostN) (w : World) :
    Calls Tryd.prog 15 #[.complex .f64 (fB x) (fB y), .complex .f64 (fB u) (fB v)] w fun e w' => e = .returned (.tuple #[.complex .f64 (fB (x + u)) (fB (y + v)), .nilIface]) ∧ Below w.heap.size w w' := by
  have C1 := Lib.hid fun N cap W h0 h1 => sum_two x y u v hx hy N cap W h0 h1
  have HB := Lib.hid fun o => (Below.refl w.heap.size w).alloc (Nat.le_refl _) o
  obtain ⟨p, hp⟩ : ∃ p, p = fB x := ⟨_, rfl⟩
  obtain ⟨q, hq⟩ : ∃ q, q = fB y := ⟨_, rfl⟩
  obtain ⟨r, hr⟩ : ∃ r, r = fB u := ⟨_, rfl⟩
  obtain ⟨s, hs⟩ : ∃ s, s = fB v := ⟨_, rfl⟩
  obtain ⟨j, hj⟩ : ∃ j, j = fB (x + u) := ⟨_, rfl⟩
  obtain ⟨k, hk⟩ : ∃ k, k = fB (y + v) := ⟨_, rfl⟩
  rw [← hp, ← hq, ← hr, ← hs, ← hj, ← hk] at C1
  rw [← hp, ← hq, ← hr, ← hs, ← hj, ← hk]
  clear hp hq hr hs hj hk hx hy
  go_enter Tryd.func15, Tryd.ntmps15
  go_wp2_with (go_at_call 22; go_must (refine (C1.out _ _ _ (by simp) (by simp)).mono ?_; rintro y1 W ⟨rfl, rfl⟩))
  go_ret2
  exact ⟨rfl, HB.out _⟩

/-- Cut at the sign between the parts. -/
theorem cut_any (s : ByteArray) (w : World) (hs : s.size ≤ maxLen) :
    Calls Tryd.prog 24 #[.string s, .string ⟨#[47]⟩] w fun e w' => (∃ b, e = .returned (.tuple #[.string ⟨(cutA s.data.toList).toArray⟩, .string ⟨(cutB s.data.toList).toArray⟩, .bool b])) ∧ ∃ n, w' = w.drewN n := by
  have CI := Lib.hid fun W => Tryd.stringslite_Index_one s 47 W
  rcases index_cut s.data.toList with ⟨h1, h2, h3⟩ | ⟨k, h1, h2, h3, h4⟩
  · rw [h2, h3]
    rw [h1] at CI
    have e : (⟨s.data.toList.toArray⟩ : ByteArray) = s := by apply ByteArray.ext; simp
    rw [e]
    clear h1 h2 h3 e
    go_enter Tryd.func24, Tryd.ntmps24
    go_wp2_with (go_at_call 34; refine (CI.out _).mono ?_; rintro y1 W ⟨rfl, rfl⟩)
    go_ret3
    exact ⟨⟨_, rfl⟩, 0, rfl⟩
  · rw [h3, h4]
    rw [h1] at CI
    have hsz : s.data.toList.length = s.size := len_of s
    have hk : k < s.size := by omega
    unfold maxLen at hs
    have e1 : (⟨(s.data.toList.take k).toArray⟩ : ByteArray) = s.extract 0 k := by
      apply ByteArray.ext
      apply Array.toList_inj.1
      rw [Lib.extract_data]
      simp
    have e2 : (⟨(s.data.toList.drop (k + 1)).toArray⟩ : ByteArray) = s.extract (k + 1) s.size := by
      apply ByteArray.ext
      apply Array.toList_inj.1
      rw [Lib.extract_data, List.take_of_length_le]
      rw [List.length_drop, hsz]
      exact Nat.le_refl _
    rw [e1, e2]
    have c1 : (0 : Int) ≤ (k : Int) := by omega
    have c2 : (k : Int) ≤ (s.size : Int) := by omega
    have c3 : (0 : Int) ≤ (k : Int) + 1 := by omega
    have c4 : (k : Int) + 1 ≤ (s.size : Int) := by omega
    have c5 : ((k : Int) + 1).toNat = k + 1 := by omega
    clear h1 h2 h3 h4 e1 e2
    go_enter Tryd.func24, Tryd.ntmps24
    go_wp2_with (go_at_call 34; refine (CI.out _).mono ?_; rintro y1 W ⟨rfl, rfl⟩)
    go_region
    go_wp2
    go_ret3
    exact ⟨⟨_, rfl⟩, 1, rfl⟩

theorem std_cut (s : ByteArray) (w : World) (hs : s.size ≤ maxLen) :
    Calls Tryd.prog 17 #[.string s, .string ⟨#[47]⟩] w fun e w' => (∃ b, e = .returned (.tuple #[.string ⟨(cutA s.data.toList).toArray⟩, .string ⟨(cutB s.data.toList).toArray⟩, .bool b])) ∧ ∃ n, w' = w.drewN n := by
  have CI := Lib.hid fun W => cut_any s W hs
  generalize (⟨(cutA s.data.toList).toArray⟩ : ByteArray) = a at CI ⊢
  generalize (⟨(cutB s.data.toList).toArray⟩ : ByteArray) = b at CI ⊢
  go_enter Tryd.func17, Tryd.ntmps17
  go_wp2_with (go_at_call 24; refine (CI.out _).mono ?_; rintro y1 W ⟨⟨z, rfl⟩, n, rfl⟩)
  go_ret3
  exact ⟨⟨_, rfl⟩, n, rfl⟩

theorem num_cases (e : Lib.NumEnd Int) : (∃ v, e = .ok v) ∨ e = Lib.NumEnd.ofOption none ∨ e = .range := by
  cases e with
  | ok v => exact Or.inl ⟨v, rfl⟩
  | range => exact Or.inr (Or.inr rfl)
  | _ => exact Or.inr (Or.inl rfl)

/-- strconv.Atoi of a number's text, and of any other. -/
theorem atoi_yes (s : ByteArray) (hs : s.size ≤ 281474976710656) (v : Int) (h : Lib.atoiAll s.data.toList = .ok v) (w : World) :
    Calls Tryd.prog 18 #[.string s] w fun e w' => e = .returned (.tuple #[.int .i64 v, .nilIface]) ∧ Below w.heap.size w w' := by
  refine (Tryd.strconv_Atoi_ok s (by omega) v h w).mono ?_
  rintro e w' ⟨rfl, hb⟩
  refine ⟨rfl, ?_⟩
  rcases hb with rfl | ⟨t, rfl⟩
  · exact Below.refl _ _
  · exact Lib.bytesWorld_below _ _ _
theorem atoi_no (s : ByteArray) (hs : s.size ≤ 281474976710656) (h : ∀ v, Lib.atoiAll s.data.toList ≠ .ok v) (w : World) (hw : StdP w) :
    Calls Tryd.prog 18 #[.string s] w fun e w' => (∃ v t p, e = .returned (.tuple #[.int .i64 v, .iface t p])) ∧ Below w.heap.size w w' := by
  rcases num_cases (Lib.atoiAll s.data.toList) with ⟨v, h1⟩ | h1 | h1
  · exact absurd h1 (h v)
  · obtain ⟨tp, p, hv⟩ := hw.syn
    refine (Tryd.strconv_Atoi_syntax_var s (by omega) h1 tp p w hv).mono ?_
    rintro e w' ⟨N, rfl, -, -, hb⟩
    exact ⟨⟨_, _, _, rfl⟩, hb⟩
  · obtain ⟨tp, p, hv⟩ := hw.rng
    refine (Tryd.strconv_Atoi_range_var s (by omega) h1 tp p w hv).mono ?_
    rintro e w' ⟨N, rfl, -, -, hb⟩
    exact ⟨⟨_, _, _, rfl⟩, hb⟩

theorem loose_yes {s : List UInt8} {a b : Int} {p : Nat × Nat} (h1 : Lib.atoiAll (cutA s) = .ok a) (h2 : Lib.atoiAll (cutB s) = .ok b) (hp : amt2 (floatOfInt .f64 a) (floatOfInt .f64 b) = some p) : p.1 ≤ mostN ∧ p.2 ≤ mostN ∧ ∀ x y, readP s = some (x, y) → x = p.1 ∧ y = p.2 := by
  unfold amt2 at hp
  obtain ⟨e1, e2, e3, e4⟩ := pairOf_some (x := p.1) (y := p.2) hp
  refine ⟨e3, e4, fun x y h => ?_⟩
  obtain ⟨g1, g2, g3, g4⟩ := readP_parts h
  rw [h1] at g1
  rw [h2] at g2
  unfold Lib.NumEnd.ofOption at g1 g2
  injection g1 with g1
  injection g2 with g2
  rw [g1, fl_of g3, amt_fB g3] at e1
  rw [g2, fl_of g4, amt_fB g4] at e2
  injection e1 with e1
  injection e2 with e2
  exact ⟨e1, e2⟩
theorem loose_none {s : List UInt8} {a b : Int} (h1 : Lib.atoiAll (cutA s) = .ok a) (h2 : Lib.atoiAll (cutB s) = .ok b) (hp : amt2 (floatOfInt .f64 a) (floatOfInt .f64 b) = none) : readP s = none := by
  cases hr : readP s with
  | none => rfl
  | some p =>
    obtain ⟨g1, g2, g3, g4⟩ := readP_parts (x := p.1) (y := p.2) hr
    rw [h1] at g1
    rw [h2] at g2
    unfold Lib.NumEnd.ofOption at g1 g2
    injection g1 with g1
    injection g2 with g2
    rw [g1, g2, fl_of g3, fl_of g4, amt2_fB g3 g4] at hp
    cases hp
theorem no_a {s : List UInt8} (h : ∀ v, Lib.atoiAll (cutA s) ≠ .ok v) : readP s = none := readP_noA fun x _ => h _
theorem no_b {s : List UInt8} (h : ∀ v, Lib.atoiAll (cutB s) ≠ .ok v) : readP s = none := readP_noB fun x _ => h _
theorem cutA_len (s : List UInt8) : (cutA s).length ≤ s.length := (List.takeWhile_sublist _).length_le
theorem cutB_len (s : List UInt8) : (cutB s).length ≤ s.length := by
  unfold cutB
  rw [List.length_drop]
  have := (List.dropWhile_sublist (l := s) (· != 47)).length_le
  omega
theorem below_drewQ {B : Nat} (w : World) (n : Nat) : Below B w (w.drewN n) := ⟨rfl, rfl, rfl, Nat.le_refl _, fun _ _ => rfl⟩

set_option maxHeartbeats 2000000 in
theorem loose_any (s : ByteArray) (w : World) (hs : s.size ≤ 281474976710656) (hw : StdP w) :
    (∃ x y, x ≤ mostN ∧ y ≤ mostN ∧ (∀ a b, readP s.data.toList = some (a, b) → a = x ∧ b = y) ∧ Calls Tryd.prog 9 #[.string s] w fun e w' => e = .returned (.tuple #[.complex .f64 (fB x) (fB y), .nilIface]) ∧ Below w.heap.size w w') ∨
    (readP s.data.toList = none ∧ Calls Tryd.prog 9 #[.string s] w fun e w' => (∃ p q t v, e = .returned (.tuple #[.complex .f64 p q, .iface t v])) ∧ Below w.heap.size w w') := by
  have CC := Lib.hid (std_cut s w (by unfold maxLen; omega))
  have hsz : s.data.toList.length = s.size := len_of s
  have b1 : (⟨(cutA s.data.toList).toArray⟩ : ByteArray).size ≤ 281474976710656 := by
    have := cutA_len s.data.toList
    show (cutA s.data.toList).toArray.size ≤ 281474976710656
    rw [List.size_toArray]; omega
  have b2 : (⟨(cutB s.data.toList).toArray⟩ : ByteArray).size ≤ 281474976710656 := by
    have := cutB_len s.data.toList
    show (cutB s.data.toList).toArray.size ≤ 281474976710656
    rw [List.size_toArray]; omega
  have d1 : (⟨(cutA s.data.toList).toArray⟩ : ByteArray).data.toList = cutA s.data.toList := List.toList_toArray
  have d2 : (⟨(cutB s.data.toList).toArray⟩ : ByteArray).data.toList = cutB s.data.toList := List.toList_toArray
  generalize (⟨(cutA s.data.toList).toArray⟩ : ByteArray) = sa at CC b1 d1
  generalize (⟨(cutB s.data.toList).toArray⟩ : ByteArray) = sb at CC b2 d2
  have HB0 := Lib.hid fun n => below_drewQ (B := w.heap.size) w n
  have HS := Lib.hid fun (W : World) (hb : Below w.heap.size w W) => hw.more hb
  obtain ⟨l, hl⟩ : ∃ l, l = s.data.toList := ⟨_, rfl⟩
  rw [← hl] at d1 d2 ⊢
  clear hsz hl hs hw
  by_cases ha : ∃ v, Lib.atoiAll (cutA l) = .ok v
  · obtain ⟨v1, ha⟩ := ha
    have C1 := Lib.hid fun W => atoi_yes sa b1 v1 (by rw [d1]; exact ha) W
    by_cases hb : ∃ v, Lib.atoiAll (cutB l) = .ok v
    · obtain ⟨v2, hb⟩ := hb
      have C2 := Lib.hid fun W => atoi_yes sb b2 v2 (by rw [d2]; exact hb) W
      obtain ⟨o, ho⟩ : ∃ o, amt2 (floatOfInt .f64 v1) (floatOfInt .f64 v2) = o := ⟨_, rfl⟩
      have cO := fun W => of_any v1 v2 W
      rw [ho] at cO
      obtain ⟨va, hva⟩ : ∃ va, va = amtV o := ⟨_, rfl⟩
      obtain ⟨vb, hvb⟩ : ∃ vb, vb = ev (errK 1 o) := ⟨_, rfl⟩
      rw [← hva, ← hvb] at cO
      have key : Calls Tryd.prog 9 #[.string s] w fun e w' => e = .returned (.tuple #[va, vb]) ∧ Below w.heap.size w w' := by
        have CO := Lib.hid cO
        clear cO hva hvb ho ha hb d1 d2 b1 b2
        have tk : True := trivial
        go_enter Tryd.func9, Tryd.ntmps9
        go_wp2_with (first
          | (go_at_call 17; go_must (refine CC.out.mono ?_; rintro y1 W ⟨⟨z, rfl⟩, n, rfl⟩; have HB3 := Lib.hid (HB0.out n)))
          | (go_at_call 18; have _t := tk; clear tk; go_must (refine (C1.out _).mono ?_; rintro y1 W1 ⟨rfl, hb1⟩; have HB1 := Lib.hid (HB3.out.trans (hb1.mono HB3.out.size)); clear hb1))
          | (go_at_call 18; go_must (refine (C2.out _).mono ?_; rintro y1 W2 ⟨rfl, hb2⟩; have HB2 := Lib.hid (HB1.out.trans (hb2.mono HB1.out.size)); clear hb2))
          | (go_at_call 19; go_must (refine (CO.out _).mono ?_; rintro y1 W3 ⟨rfl, rfl⟩)))
        go_ret2
        exact ⟨rfl, HB2.out⟩
      subst hva; subst hvb
      cases o with
      | none => exact Or.inr ⟨loose_none ha hb ho, key.mono fun e w' h => ⟨⟨_, _, _, _, h.1⟩, h.2⟩⟩
      | some a =>
        obtain ⟨g1, g2, g3⟩ := loose_yes ha hb ho
        exact Or.inl ⟨a.1, a.2, g1, g2, g3, key⟩
    · have hb' : ∀ v, Lib.atoiAll (cutB l) ≠ .ok v := fun v h => hb ⟨v, h⟩
      have C2 := Lib.hid fun W hW => atoi_no sb b2 (by rw [d2]; exact hb') W hW
      refine Or.inr ⟨no_b hb', ?_⟩
      clear ha hb hb' d1 d2 b1 b2
      have tk : True := trivial
      go_enter Tryd.func9, Tryd.ntmps9
      go_wp2_with (first
        | (go_at_call 17; go_must (refine CC.out.mono ?_; rintro y1 W ⟨⟨z, rfl⟩, n, rfl⟩; have HB3 := Lib.hid (HB0.out n)))
        | (go_at_call 18; have _t := tk; clear tk; go_must (refine (C1.out _).mono ?_; rintro y1 W1 ⟨rfl, hb1⟩; have HB1 := Lib.hid (HB3.out.trans (hb1.mono HB3.out.size)); clear hb1))
        | (go_at_call 18; go_must (refine (C2.out _ (HS.out _ HB1.out)).mono ?_; rintro y1 W2 ⟨⟨v, t, p, rfl⟩, hb2⟩; have HB2 := Lib.hid (HB1.out.trans (hb2.mono HB1.out.size)); clear hb2)))
      go_ret2
      exact ⟨⟨_, _, _, _, rfl⟩, HB2.out⟩
  · have ha' : ∀ v, Lib.atoiAll (cutA l) ≠ .ok v := fun v h => ha ⟨v, h⟩
    have C1 := Lib.hid fun W hW => atoi_no sa b1 (by rw [d1]; exact ha') W hW
    refine Or.inr ⟨no_a ha', ?_⟩
    clear ha ha' d1 d2 b1 b2
    go_enter Tryd.func9, Tryd.ntmps9
    go_wp2_with (first
      | (go_at_call 17; go_must (refine CC.out.mono ?_; rintro y1 W ⟨⟨z, rfl⟩, n, rfl⟩; have HB3 := Lib.hid (HB0.out n)))
      | (go_at_call 18; go_must (refine (C1.out _ (HS.out _ HB3.out)).mono ?_; rintro y1 W1 ⟨⟨v, t, p, rfl⟩, hb1⟩; have HB1 := Lib.hid (HB3.out.trans (hb1.mono HB3.out.size)); clear hb1)))
    go_ret2
    exact ⟨⟨_, _, _, _, rfl⟩, HB1.out⟩

theorem list_eq_of {s : ByteArray} {l : List UInt8} : (⟨l.toArray⟩ : ByteArray) = s ↔ l = s.data.toList := by
  constructor
  · intro h; rw [← h]
  · intro h; rw [h]

set_option maxHeartbeats 2000000 in
theorem read_any (s : ByteArray) (w : World) (hs : s.size ≤ 281474976710656) (hw : StdP w) :
    Calls Tryd.prog 4 #[.string s] w fun e w' => e = .returned (.tuple #[amtV (readP s.data.toList), ev (errK 3 (readP s.data.toList))]) ∧ Below w.heap.size w w' := by
  have HS := Lib.hid fun (W : World) (hb : Below w.heap.size w W) => hw.more hb
  rcases loose_any s w hs hw with ⟨x, y, hx, hy, hu, cL⟩ | ⟨hn, cL⟩
  · have CL := Lib.hid cL
    have CS := Lib.hid fun W hW => show_yes x y hx hy W hW
    by_cases he : showP x y = s.data.toList
    · rw [readP_of_show hx hy he]
      have e2 : (⟨(showP x y).toArray⟩ : ByteArray) = s := list_eq_of.2 he
      rw [e2] at CS
      simp only [amtV, errK, ev]
      obtain ⟨p, hp⟩ : ∃ p, p = fB x := ⟨_, rfl⟩
      obtain ⟨q, hq⟩ : ∃ q, q = fB y := ⟨_, rfl⟩
      rw [← hp, ← hq] at CS CL
      rw [← hp, ← hq]
      clear cL he e2 hp hq hu hx hy hs hw
      go_enter Tryd.func4, Tryd.ntmps4
      go_wp2_with (first
        | (go_at_call 9; go_must (refine CL.out.mono ?_; rintro y1 W1 ⟨rfl, hb1⟩; have HB1 := Lib.hid hb1; clear hb1))
        | (go_at_call 7; go_must (refine (CS.out _ (HS.out _ HB1.out)).mono ?_; rintro y1 W2 ⟨rfl, hb2⟩; have HB2 := Lib.hid (HB1.out.trans (hb2.mono HB1.out.size)); clear hb2)))
      go_ret2
      exact ⟨rfl, HB2.out⟩
    · have e1 : readP s.data.toList = none := by
        cases hr : readP s.data.toList with
        | none => rfl
        | some a =>
          exfalso
          have h2 := hu a.1 a.2 hr
          have h3 := readP_show (x := a.1) (y := a.2) hr
          rw [h2.1, h2.2] at h3
          exact he h3.1
      rw [e1]
      have e2 : ¬ (⟨(showP x y).toArray⟩ : ByteArray) = s := fun h => he (list_eq_of.1 h)
      obtain ⟨z, hz⟩ : ∃ z, z = (⟨(showP x y).toArray⟩ : ByteArray) := ⟨_, rfl⟩
      obtain ⟨p, hp⟩ : ∃ p, p = fB x := ⟨_, rfl⟩
      obtain ⟨q, hq⟩ : ∃ q, q = fB y := ⟨_, rfl⟩
      rw [← hp, ← hq] at CS CL
      rw [← hz] at CS e2
      have e3 : (z.toList == s.toList) = false := beq_eq_false_iff_ne.2 fun h => e2 (by
        rw [Lib.toList_data, Lib.toList_data] at h
        apply ByteArray.ext
        exact Array.toList_inj.1 h)
      have e4 : (!(z.toList == s.toList)) = true := by rw [e3]; rfl
      clear e2
      simp only [amtV, errK, ev]
      clear cL he e1 hp hq hu hx hy hs hw hz
      go_enter Tryd.func4, Tryd.ntmps4
      go_wp2_with (first
        | (go_at_call 9; go_must (refine CL.out.mono ?_; rintro y1 W1 ⟨rfl, hb1⟩; have HB1 := Lib.hid hb1; clear hb1))
        | (go_at_call 7; go_must (refine (CS.out _ (HS.out _ HB1.out)).mono ?_; rintro y1 W2 ⟨rfl, hb2⟩; have HB2 := Lib.hid (HB1.out.trans (hb2.mono HB1.out.size)); clear hb2)))
      go_ret2
      exact ⟨rfl, HB2.out⟩
  · rw [hn]
    simp only [amtV, errK, ev]
    have CL := Lib.hid cL
    clear cL hn hs hw
    go_enter Tryd.func4, Tryd.ntmps4
    go_wp2_with (go_at_call 9; go_must (refine CL.out.mono ?_; rintro y1 W1 ⟨⟨p, q, t, v, rfl⟩, hb1⟩; have HB1 := Lib.hid hb1; clear hb1))
    go_ret2
    exact ⟨rfl, HB1.out⟩

theorem amt_lt {x : Nat} (h : x ≤ mostN) : fB x < 18446744073709551616 := by
  have := fB_lt (Nat.lt_of_le_of_lt h mostN_lt)
  omega
theorem conP : ConP where
  cRead := read_any
  cShow := fun x y w hx hy hw => show_yes x y hx hy w hw
  cAdd := fun x y u v w hx hy _ => add_two x y u v hx hy w
  cMay := fun x y w hx hy _ => (may_yes x y hx hy w).mono fun e w' h => ⟨h.1, h.2 ▸ Below.refl _ _⟩
  cNot := fun x y w hx hy ha _ => by
    have h := may_any x y hx hy w
    have : amt2 x y = none := by unfold amt2; rw [ha]; rfl
    rw [this] at h
    exact h.mono fun e w' h => ⟨h.1, h.2 ▸ Below.refl _ _⟩

end Go.Proofs.YtebgnhkcngmgeaaDoor.pk
