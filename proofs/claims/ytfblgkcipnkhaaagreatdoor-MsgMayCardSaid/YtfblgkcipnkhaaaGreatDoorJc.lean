/-
  Texts of the proof, joined: RdR, RdS, RdE, RdF, MayM, GivS, Crc, PureS, NearP, PureO, Std, As, Num, StdP.
-/
import Derived.Test.YtfblgkcipnkhaaaGreatDoorJb
import Derived.Lib.ItoaNum
import Derived.ProofKit
import Derived.LaidEql
import Derived.Stop.Asserts
import Derived.RowKitTokens
import Derived.Lib.LaidTab
import Derived.WalkSmall

/-
  The document's own reader: bytes.
-/
namespace Go.Proofs.YtfblgkcipnkhaaaGreatDoor.pk
open Go Go.RowKit
set_option maxRecDepth 100000

set_option maxHeartbeats 2000000 in
theorem run_head (A : Option Addr) (n c k most : Nat) (hmo : most ≤ 1000000) (bs : List UInt8) (k1 : Nat) (w : World) {B : Nat} (hB : B ≤ w.heap.size) (h : Sl w B (.slice A n c) bs)
    (hk : (if k = 0 then headK 98 bs else k) = k1) (hk1 : k1 ≠ 0) :
    Calls Tryz.prog 68 #[.agg #[.slice A n c, .int .i64 (k : Int)], .int .u8 98, .int .i64 (most : Int)] w fun x w' => x = .returned (.tuple #[.agg #[.slice A n c, .int .i64 (k1 : Int)], .slice none 0 0]) ∧ Below w.heap.size w w' := by
  have hz : ((k1 : Int) != 0) = true := by simp; omega
  have m0 : ¬ (most : Int) < 0 := by omega
  have md : decide ((most : Int) < 0) = false := decide_eq_false m0
  obtain ⟨w0, hw0⟩ : ∃ w0, w0 = (w.alloc (Obj.cells #[Value.slice A n c, Value.int IntKind.i64 (k : Int)] 63)).alloc (Obj.cells #[Value.slice none 0 0, Value.int IntKind.i64 0] 63) := ⟨_, rfl⟩
  have hb0 : Below w.heap.size w w0 := by rw [hw0]; exact ((Below.refl _ _).alloc (Nat.le_refl _) _).alloc (by simp) _
  have hX : RB w0 w.heap.size (.slice A n c) (.int .i64 (k : Int)) := by rw [hw0]; exact heap_alloc2_old _ _ _
  have hY : RB w0 (w.heap.size + 1) (.slice none 0 0) (.int .i64 0) := by rw [hw0]; exact heap_alloc2_new _ _ _
  have H := Lib.hid (head_any A n c k 98 bs w0 (Nat.le_trans hB hb0.size) (h.below (hb0.mono hB)))
  rw [hk] at H
  clear h hmo
  by_cases hk0 : k = 0
  · subst hk0
    have e0 : ((0 : Nat) : Int) = 0 := rfl
    rw [e0] at hw0
    rw [e0] at H
    rw [e0]
    go_enter Tryz.func68, Tryz.ntmps68
    go_wp2_with fail
    rw [← hw0]
    refine H.out.mono ?_
    rintro x w1 ⟨rfl, hb1⟩
    obtain ⟨x0, x1, xf0, xf1⟩ := (hX.below hb1).facts
    obtain ⟨y0, y1, yf0, yf1⟩ := (hY.below hb1).facts
    have HB1 := Lib.hid (hb0.trans (hb1.mono hb0.size))
    clear hw0 hb0 hX hY hb1 hk hk1
    go_wp2
    exact bodyPost_ret (v := .tuple #[.agg #[.slice A n c, .int .i64 (k1 : Int)], .slice none 0 0]) (by simp [results, Tryz.results68, go_sem, y0, y1]) rfl ⟨rfl, set4 HB1.out w.heap.size (Nat.le_refl _) _ _⟩
  · have hkz : ((k : Int) == 0) = false := by simp; omega
    go_enter Tryz.func68, Tryz.ntmps68
    go_wp2_with fail
    rw [← hw0]
    refine H.out.mono ?_
    rintro x w1 ⟨rfl, hb1⟩
    obtain ⟨x0, x1, xf0, xf1⟩ := (hX.below hb1).facts
    obtain ⟨y0, y1, yf0, yf1⟩ := (hY.below hb1).facts
    have HB1 := Lib.hid (hb0.trans (hb1.mono hb0.size))
    clear hw0 hb0 hX hY hb1 hk hk1
    go_wp2
    exact bodyPost_ret (v := .tuple #[.agg #[.slice A n c, .int .i64 (k1 : Int)], .slice none 0 0]) (by simp [results, Tryz.results68, go_sem, y0, y1]) rfl ⟨rfl, set4 HB1.out w.heap.size (Nat.le_refl _) _ _⟩

/-- The digits' end, told by what is left. -/
theorem digits_at (A : Option Addr) (n c a : Nat) (e : UInt8) (bs : List UInt8) (w : World) {B : Nat} (h : Sl w B (.slice A n c) bs) (ha : a ≤ bs.length) (he : isDg e = false)
    (m : Nat) (rest : List UInt8) (hr : scan e [] (bs.drop a) = (0, m, rest)) (en : Nat) (hen : en = bs.length - rest.length) :
    (en ≤ bs.length ∧ rest = bs.drop en) ∧ Calls Tryz.prog 88 #[.slice A n c, .int .i64 (a : Int), .int .u8 (e.toNat : Int)] w fun x w' => x = .returned (.tuple #[.int .u64 (m : Int), .int .i64 (en : Int), .int .i64 0]) ∧ w' = w := by
  obtain ⟨ds, e1, -, -, -⟩ := scan_inv (bs.drop a) [] (by simp) hr
  have e2 : bs = bs.take a ++ (ds ++ [e]) ++ rest := by
    have := (List.take_append_drop a bs).symm
    rw [e1] at this
    rw [List.append_assoc, List.append_assoc]
    exact this
  obtain ⟨y, hy⟩ : ∃ y, y = bs.take a ++ (ds ++ [e]) := ⟨_, rfl⟩
  rw [← hy] at e2
  have hl := congrArg List.length e2
  rw [List.length_append] at hl
  have hdrop : rest = bs.drop en := by
    have h3 := congrArg (List.drop y.length) e2
    rw [List.drop_left] at h3
    rw [hen, show bs.length - rest.length = y.length by omega]
    exact h3.symm
  refine ⟨⟨by omega, hdrop⟩, (digits_any A n c a e bs w h ha he 0 m rest hr).mono ?_⟩
  rintro x w' ⟨en', rfl, hx, rfl⟩
  obtain ⟨h4, h5⟩ := hx rfl
  have h6 := congrArg List.length h5
  rw [List.length_drop] at h6
  have : en' = en := by omega
  rw [this]
  exact ⟨rfl, rfl⟩

set_option maxHeartbeats 4000000 in
theorem run_bad (A : Option Addr) (n c most : Nat) (hmo : most ≤ 1000000) (r : List UInt8) (k m : Nat) (rest : List UInt8) (w : World) {B : Nat} (hB : B ≤ w.heap.size) (h : Sl w B (.slice A n c) (98 :: r))
    (hr : scan 58 [] r = (k, m, rest)) (k2 : Nat) (hk : (k ≠ 0 ∧ k2 = k) ∨ (k = 0 ∧ most < m ∧ k2 = 2) ∨ (k = 0 ∧ ¬ most < m ∧ rest.length < m ∧ k2 = 12)) :
    Calls Tryz.prog 68 #[.agg #[.slice A n c, .int .i64 0], .int .u8 98, .int .i64 (most : Int)] w fun x w' => x = .returned (.tuple #[.agg #[.slice A n c, .int .i64 (k2 : Int)], .slice none 0 0]) ∧ Below w.heap.size w w' := by
  have m0 : ¬ (most : Int) < 0 := by omega
  have md : decide ((most : Int) < 0) = false := decide_eq_false m0
  have hmw : IntKind.u64.wrap (most : Int) = (most : Int) := by rw [IntKind.wrap_u64]; omega
  obtain ⟨hl1, hl2, hl3⟩ := h.len
  obtain ⟨w0, hw0⟩ : ∃ w0, w0 = (w.alloc (Obj.cells #[Value.slice A n c, Value.int IntKind.i64 0] 63)).alloc (Obj.cells #[Value.slice none 0 0, Value.int IntKind.i64 0] 63) := ⟨_, rfl⟩
  have hb0 : Below w.heap.size w w0 := by rw [hw0]; exact ((Below.refl _ _).alloc (Nat.le_refl _) _).alloc (by simp) _
  have hX : RB w0 w.heap.size (.slice A n c) (.int .i64 0) := by rw [hw0]; exact heap_alloc2_old _ _ _
  have hY : RB w0 (w.heap.size + 1) (.slice none 0 0) (.int .i64 0) := by rw [hw0]; exact heap_alloc2_new _ _ _
  have H := Lib.hid (head_any A n c 0 98 (98 :: r) w0 (Nat.le_trans hB hb0.size) (h.below (hb0.mono hB)))
  rw [if_pos rfl, show headK 98 (98 :: r) = 0 from rfl] at H
  have HS := Lib.hid h
  have i63 : (n : Int) ≤ 9223372036854775807 := by omega
  have HL := Lib.hid hl1
  clear h hl1 hl2 hl3
  go_enter Tryz.func68, Tryz.ntmps68
  go_wp2_with fail
  rw [← hw0]
  refine H.out.mono ?_
  rintro x w1 ⟨rfl, hb1⟩
  have hX1 := hX.below hb1
  have hY1 := hY.below hb1
  obtain ⟨x0, x1, xf0, xf1⟩ := hX1.facts
  have hB1 : Below w.heap.size w w1 := hb0.trans (hb1.mono hb0.size)
  have hY2 := Lib.hid (hY1.other (k := w.heap.size) (by omega) (.slice A n c) (.int .i64 0))
  have HB2 := Lib.hid (((hB1.setCell (p := ⟨w.heap.size, 0, none⟩) (Nat.le_refl _) (.slice A n c)).setCell (p := ⟨w.heap.size, 1, none⟩) (Nat.le_refl _) (.int .i64 0)))
  have HS2 := Lib.hid (HS.out.below (HB2.out.mono hB))
  have HR := Lib.hid hr
  clear hw0 hb0 hX hY hb1 hX1 hY1 hB1 hr
  rcases hk with ⟨hk, rfl⟩ | ⟨rfl, hm, rfl⟩ | ⟨rfl, hm, hm2, rfl⟩
  · have hz : ((k2 : Int) != 0) = true := by simp; omega
    have hz' : ((k2 : Int) == 0) = false := by simp; omega
    clear hk
    go_wp2_with (first
      | (go_at_call 88; refine (digits_any A n c 1 58 (98 :: r) _ HS2.out (by simp) (by decide) k2 m rest (by rw [List.drop_one]; exact HR.out)).mono ?_; rintro x w2 ⟨en, rfl, hen, rfl⟩; clear hen)
      | (go_at_call 67; refine (fail_any _ _ _ 0 k2 _).mono ?_; rw [if_pos rfl]; rintro x w3 ⟨rfl, hb3⟩; obtain ⟨y0, y1, yf0, yf1⟩ := (hY2.out.below hb3).facts; have HB3 := Lib.hid (HB2.out.trans (hb3.mono HB2.out.size)); clear hb3))
    exact bodyPost_ret (v := .tuple #[.agg #[.slice A n c, .int .i64 (k2 : Int)], .slice none 0 0]) (by simp [results, Tryz.results68, go_sem, y0, y1]) rfl ⟨rfl, (HB3.out.setCell (by simp) _).setCell (by simp) _⟩
  · have hi : (most : Int) < (m : Int) := by omega
    clear hm
    go_wp2_with (first
      | (go_at_call 88; refine (digits_any A n c 1 58 (98 :: r) _ HS2.out (by simp) (by decide) 0 m rest (by rw [List.drop_one]; exact HR.out)).mono ?_; rintro x w2 ⟨en, rfl, hen, rfl⟩; clear hen)
      | (go_at_call 67; refine (fail_any _ _ _ 0 2 _).mono ?_; rw [if_pos rfl]; rintro x w3 ⟨rfl, hb3⟩; obtain ⟨y0, y1, yf0, yf1⟩ := (hY2.out.below hb3).facts; have HB3 := Lib.hid (HB2.out.trans (hb3.mono HB2.out.size)); clear hb3))
    exact bodyPost_ret (v := .tuple #[.agg #[.slice A n c, .int .i64 2], .slice none 0 0]) (by simp [results, Tryz.results68, go_sem, y0, y1]) rfl ⟨rfl, (HB3.out.setCell (by simp) _).setCell (by simp) _⟩
  · obtain ⟨en, hen⟩ : ∃ en, en = (98 :: r).length - rest.length := ⟨_, rfl⟩
    have hD := digits_at A n c 1 58 (98 :: r) _ HS2.out (by simp) (by decide) m rest (by rw [List.drop_one]; exact HR.out) en hen
    have hl5 := congrArg List.length hD.1.2
    rw [List.length_drop] at hl5
    have i1 : (en : Int) ≤ (n : Int) := by have := HL.out; have := hD.1.1; omega
    have hwu : IntKind.u64.wrap ((n : Int) - (en : Int)) = (rest.length : Int) := by rw [IntKind.wrap_u64]; have := HL.out; have := hD.1.1; omega
    have hi : ¬ (most : Int) < (m : Int) := by omega
    have hi2 : (rest.length : Int) < (m : Int) := by omega
    have HD := Lib.hid hD.2
    clear hm hm2 hen hD hl5
    go_wp2_with (first
      | (go_at_call 88; refine HD.out.mono ?_; rintro x w2 ⟨rfl, rfl⟩)
      | (go_at_call 67; refine (fail_any _ _ _ 0 12 _).mono ?_; rw [if_pos rfl]; rintro x w3 ⟨rfl, hb3⟩; obtain ⟨y0, y1, yf0, yf1⟩ := (hY2.out.below hb3).facts; have HB3 := Lib.hid (HB2.out.trans (hb3.mono HB2.out.size)); clear hb3))
    exact bodyPost_ret (v := .tuple #[.agg #[.slice A n c, .int .i64 12], .slice none 0 0]) (by simp [results, Tryz.results68, go_sem, y0, y1]) rfl ⟨rfl, (HB3.out.setCell (by simp) _).setCell (by simp) _⟩

end Go.Proofs.YtfblgkcipnkhaaaGreatDoor.pk

/-
  The document's own reader: bytes that are there; ReadBytes.
-/
namespace Go.Proofs.YtfblgkcipnkhaaaGreatDoor.pk
open Go Go.RowKit
set_option maxRecDepth 100000

theorem Sl.empty {w : World} {B : Nat} (A : Option Addr) {c : Nat} (hc : c ≤ 9223372036854775807) : Sl w B (.slice A 0 c) [] := ⟨A, c, rfl, Nat.zero_le _, hc, Or.inl rfl⟩
theorem Sl.behind {w : World} {B b off n c : Nat} {bs : List UInt8} (h : Sl w B (.slice (some ⟨b, off, none⟩) n c) bs) (en m : Nat) (h1 : en + m = bs.length) (hc : ¬ c = en) : Sl w B (.slice (some ⟨b, off + en, none⟩) m (c - en)) (bs.drop en) := by
  have h2 := h.cut (k := en) (by omega)
  have hn := h.len.1
  rw [if_neg hc, hn, show bs.length - en = m by omega] at h2
  have e : (some (⟨b, off, none⟩ : Addr)).map (fun x => x.add en) = some ⟨b, off + en, none⟩ := by rw [Option.map_some, Addr.add_lit]
  rw [e] at h2
  exact h2
theorem Sl.mid {w : World} {B b off n c : Nat} {bs : List UInt8} (h : Sl w B (.slice (some ⟨b, off, none⟩) n c) bs) (en m : Nat) (h1 : en + m ≤ bs.length) (hc : ¬ c = en) : Sl w B (.slice (some ⟨b, off + en, none⟩) m (c - en)) ((bs.drop en).take m) := by
  have h2 := h.behind en (bs.length - en) (by omega) hc
  exact h2.front (by rw [List.length_drop]; omega)

set_option maxHeartbeats 4000000 in
theorem run_ok (A : Option Addr) (n c most : Nat) (hmo : most ≤ 1000000) (r : List UInt8) (m : Nat) (rest : List UInt8) (w : World) {B : Nat} (hB : B ≤ w.heap.size) (h : Sl w B (.slice A n c) (98 :: r))
    (hr : scan 58 [] r = (0, m, rest)) (hm : m ≤ most) (hm2 : m ≤ rest.length) (n1 : Nat) (hn1 : n1 = rest.length - m) :
    Calls Tryz.prog 68 #[.agg #[.slice A n c, .int .i64 0], .int .u8 98, .int .i64 (most : Int)] w fun x w' => ∃ A' c' Ab cb, x = .returned (.tuple #[.agg #[.slice A' n1 c', .int .i64 0], .slice Ab m cb]) ∧ Sl w' B (.slice A' n1 c') (rest.drop m) ∧ Sl w' B (.slice Ab m cb) (rest.take m) ∧ Below w.heap.size w w' := by
  have m0 : ¬ (most : Int) < 0 := by omega
  have md : decide ((most : Int) < 0) = false := decide_eq_false m0
  have hmw : IntKind.u64.wrap (most : Int) = (most : Int) := by rw [IntKind.wrap_u64]; omega
  have hmi : IntKind.i64.wrap (m : Int) = (m : Int) := IntWalk.i64_in _ (by omega)
  obtain ⟨hl1, hl2, hl3⟩ := h.len
  obtain ⟨b, off, rfl, -⟩ := h.head
  obtain ⟨w0, hw0⟩ : ∃ w0, w0 = (w.alloc (Obj.cells #[Value.slice (some ⟨b, off, none⟩) n c, Value.int IntKind.i64 0] 63)).alloc (Obj.cells #[Value.slice none 0 0, Value.int IntKind.i64 0] 63) := ⟨_, rfl⟩
  have hb0 : Below w.heap.size w w0 := by rw [hw0]; exact ((Below.refl _ _).alloc (Nat.le_refl _) _).alloc (by simp) _
  have hX : RB w0 w.heap.size (.slice (some ⟨b, off, none⟩) n c) (.int .i64 0) := by rw [hw0]; exact heap_alloc2_old _ _ _
  have hY : RB w0 (w.heap.size + 1) (.slice none 0 0) (.int .i64 0) := by rw [hw0]; exact heap_alloc2_new _ _ _
  have H := Lib.hid (head_any (some ⟨b, off, none⟩) n c 0 98 (98 :: r) w0 (Nat.le_trans hB hb0.size) (h.below (hb0.mono hB)))
  rw [if_pos rfl, show headK 98 (98 :: r) = 0 from rfl] at H
  have HS := Lib.hid h
  have i63 : (n : Int) ≤ 9223372036854775807 := by omega
  have i64' : (n : Int) ≤ (c : Int) := by omega
  obtain ⟨en, hen⟩ : ∃ en, en = (98 :: r).length - rest.length := ⟨_, rfl⟩
  have hD := fun W (hW : Below w.heap.size w W) => digits_at (some ⟨b, off, none⟩) n c 1 58 (98 :: r) W (h.below (hW.mono hB)) (by simp) (by decide) m rest (by rw [List.drop_one]; exact hr) en hen
  have hd1 := (hD w (Below.refl _ _)).1
  have hl5 := congrArg List.length hd1.2
  rw [List.length_drop] at hl5
  have hn2 : n1 = n - (en + m) := by omega
  have hcut : ∃ A1 c1, (if c = en + m then (some ⟨b, off, none⟩ : Option Addr) else some ⟨b, off + (en + m), none⟩) = A1 ∧ c - (en + m) = c1 ∧ Sl w B (.slice A1 n1 c1) (rest.drop m) := by
    refine ⟨_, _, rfl, rfl, ?_⟩
    rw [hd1.2, List.drop_drop]
    by_cases hc : c = en + m
    · rw [if_pos hc, show n1 = 0 by omega, List.drop_eq_nil_of_le (by omega)]
      exact Sl.empty _ (by omega)
    · rw [if_neg hc]
      exact h.behind (en + m) n1 (by omega) hc
  have hmid : ∃ A2 c2, (if c = en then (some ⟨b, off, none⟩ : Option Addr) else some ⟨b, off + en, none⟩) = A2 ∧ c - en = c2 ∧ Sl w B (.slice A2 m c2) (rest.take m) := by
    refine ⟨_, _, rfl, rfl, ?_⟩
    rw [hd1.2]
    by_cases hc : c = en
    · rw [if_pos hc, show m = 0 by omega, List.take_zero]
      exact Sl.empty _ (by omega)
    · rw [if_neg hc]
      exact h.mid en m (by omega) hc
  obtain ⟨A1, c1, hA1, hc1, hS1⟩ := hcut
  obtain ⟨A2, c2, hA2, hc2, hS2⟩ := hmid
  have i1 : (en : Int) ≤ (n : Int) := by omega
  have i2 : (en : Int) + (m : Int) ≤ (n : Int) := by omega
  have hwu : IntKind.u64.wrap ((n : Int) - (en : Int)) = (rest.length : Int) := by rw [IntKind.wrap_u64]; omega
  have hi : ¬ (most : Int) < (m : Int) := by omega
  have hi2 : ¬ (rest.length : Int) < (m : Int) := by omega
  have HD := Lib.hid hD
  have HF := Lib.hid (And.intro hn2 (And.intro hS1 (And.intro hS2 hB)))
  clear h hl1 hl2 hl3 hm hm2 hen hD hd1 hl5 hn2 hn1 hr hS1 hS2
  go_enter Tryz.func68, Tryz.ntmps68
  go_wp2_with fail
  rw [← hw0]
  refine H.out.mono ?_
  rintro x w1 ⟨rfl, hb1⟩
  have hX1 := hX.below hb1
  have hY1 := hY.below hb1
  obtain ⟨x0, x1, xf0, xf1⟩ := hX1.facts
  obtain ⟨y0, y1, yf0, yf1⟩ := hY1.facts
  have hB1 : Below w.heap.size w w1 := hb0.trans (hb1.mono hb0.size)
  have HB2 := Lib.hid (((hB1.setCell (p := ⟨w.heap.size, 0, none⟩) (Nat.le_refl _) (.slice (some ⟨b, off, none⟩) n c)).setCell (p := ⟨w.heap.size, 1, none⟩) (Nat.le_refl _) (.int .i64 0)))
  clear hw0 hb0 hX hY hb1 hX1 hY1 hB1
  go_upto_region 14 with (go_at_call 88; refine (HD.out _ HB2.out).2.mono ?_; rintro x w2 ⟨rfl, rfl⟩)
  go_wp2_with fail
  all_goals
    try (have hce : c = en + m := by assumption
         subst hce)
    rw [← HF.out.1]
    have hbf := ((HB2.out.setCell (p := ⟨w.heap.size, 0, none⟩) (Nat.le_refl _) (.slice A1 n1 c1)).setCell (p := ⟨w.heap.size + 1, 0, none⟩) (by simp) (.slice A1 n1 c1)).setCell (p := ⟨w.heap.size + 1, 1, none⟩) (by simp) (.int .i64 0)
    exact bodyPost_ret (v := .tuple #[.agg #[.slice A1 n1 c1, .int .i64 0], .slice A2 m c2]) (by simp [results, Tryz.results68, go_sem, y0, y1]) rfl ⟨_, _, _, _, rfl, HF.out.2.1.below (hbf.mono HF.out.2.2.2), HF.out.2.2.1.below (hbf.mono HF.out.2.2.2), hbf⟩

theorem rdBytes_at {r rest : List UInt8} {q m : Nat} (hs : scan 58 [] r = (q, m, rest)) (most : Nat) : rdBytes 98 (most : Int) (98 :: r) = if q ≠ 0 then (q, [], []) else if most < m then (2, [], []) else if rest.length < m then (12, [], []) else (0, rest.take m, rest.drop m) := by
  have h1 : hd 98 58 (98 :: r) = (q, m, rest) := by rw [hd_cons, if_pos rfl, hs]
  have h0 : ¬ (most : Int) < 0 := by omega
  unfold rdBytes
  rw [if_neg h0, h1]
  cases q with
  | succ q => rw [if_pos (by omega)]
  | zero =>
    rw [if_neg (by omega)]
    simp only
    by_cases h2 : most < m
    · rw [if_pos h2, if_pos (by omega)]
    · rw [if_neg h2, if_neg (by omega)]
theorem rBytes_zero (l : UInt8) (most : Int) (bs : List UInt8) {e : Nat} {x y : List UInt8} (h : rdBytes l most bs = (e, x, y)) : rBytes l most (bs, 0) = if e = 0 then ((y, 0), x) else ((bs, e), []) := by
  unfold rBytes
  rw [if_pos rfl]
  simp only [h]

theorem run_s (A : Option Addr) (n c k most : Nat) (hmo : most ≤ 1000000) (bs : List UInt8) (w : World) (B : Nat) (hB : B ≤ w.heap.size) (h : Sl w B (.slice A n c) bs) (s1 x1 : List UInt8) (k1 n1 m1 : Nat) (hr : rBytes 98 (most : Int) (bs, k) = ((s1, k1), x1)) (hn : n1 = s1.length) (hm : m1 = x1.length) :
    Calls Tryz.prog 68 #[.agg #[.slice A n c, .int .i64 (k : Int)], .int .u8 98, .int .i64 (most : Int)] w fun x w' => ∃ A' c' Ab cb, x = .returned (.tuple #[.agg #[.slice A' n1 c', .int .i64 (k1 : Int)], .slice Ab m1 cb]) ∧ Sl w' B (.slice A' n1 c') s1 ∧ Sl w' B (.slice Ab m1 cb) x1 ∧ Below w.heap.size w w' := by
  obtain ⟨hnl, -, -⟩ := h.len
  have bad : ∀ q, s1 = bs → k1 = q → x1 = [] → (Calls Tryz.prog 68 #[.agg #[.slice A n c, .int .i64 (k : Int)], .int .u8 98, .int .i64 (most : Int)] w fun x w' => x = .returned (.tuple #[.agg #[.slice A n c, .int .i64 (q : Int)], .slice none 0 0]) ∧ Below w.heap.size w w') →
      Calls Tryz.prog 68 #[.agg #[.slice A n c, .int .i64 (k : Int)], .int .u8 98, .int .i64 (most : Int)] w fun x w' => ∃ A' c' Ab cb, x = .returned (.tuple #[.agg #[.slice A' n1 c', .int .i64 (k1 : Int)], .slice Ab m1 cb]) ∧ Sl w' B (.slice A' n1 c') s1 ∧ Sl w' B (.slice Ab m1 cb) x1 ∧ Below w.heap.size w w' := by
    intro q e1 e2 e3 hC
    refine hC.mono ?_
    rintro x w' ⟨e, hb⟩
    subst e1
    subst e2
    subst e3
    have e4 : n1 = n := by rw [hn, hnl]
    subst e4
    subst hm
    exact ⟨A, c, none, 0, e, h.below (hb.mono hB), Sl.nil_ _ _, hb⟩
  by_cases hk : (if k = 0 then headK 98 bs else k) = 0
  · by_cases h0 : k = 0
    · subst h0
      rw [if_pos rfl] at hk
      obtain ⟨r, rfl⟩ := headK_eq hk
      rcases hs : scan 58 [] r with ⟨q, m, rest⟩
      have hd := rdBytes_at hs most
      by_cases hq : q = 0
      · subst hq
        rw [if_neg (by simp)] at hd
        by_cases h1 : most < m
        · rw [if_pos h1] at hd
          rw [rBytes_zero 98 most _ hd, if_neg (by simp)] at hr
          simp only [Prod.mk.injEq] at hr
          exact bad 2 hr.1.1.symm hr.1.2.symm hr.2.symm (run_bad A n c most hmo r 0 m rest w hB h hs 2 (Or.inr (Or.inl ⟨rfl, h1, rfl⟩)))
        · rw [if_neg h1] at hd
          by_cases h2 : rest.length < m
          · rw [if_pos h2] at hd
            rw [rBytes_zero 98 most _ hd, if_neg (by simp)] at hr
            simp only [Prod.mk.injEq] at hr
            exact bad 12 hr.1.1.symm hr.1.2.symm hr.2.symm (run_bad A n c most hmo r 0 m rest w hB h hs 12 (Or.inr (Or.inr ⟨rfl, h1, h2, rfl⟩)))
          · rw [if_neg h2] at hd
            rw [rBytes_zero 98 most _ hd, if_pos rfl] at hr
            simp only [Prod.mk.injEq] at hr
            obtain ⟨⟨rfl, rfl⟩, rfl⟩ := hr
            have e1 : m1 = m := by rw [hm, List.length_take]; omega
            subst e1
            exact run_ok A n c most hmo r m1 rest w hB h hs (by omega) (by omega) n1 (by rw [hn, List.length_drop])
      · rw [if_pos hq] at hd
        rw [rBytes_zero 98 most _ hd, if_neg hq] at hr
        simp only [Prod.mk.injEq] at hr
        exact bad q hr.1.1.symm hr.1.2.symm hr.2.symm (run_bad A n c most hmo r q m rest w hB h hs q (Or.inl ⟨hq, rfl⟩))
    · rw [if_neg h0] at hk; exact absurd hk h0
  · have e : rBytes 98 (most : Int) (bs, k) = ((bs, if k = 0 then headK 98 bs else k), []) := by
      by_cases h0 : k = 0
      · subst h0
        rw [if_pos rfl] at hk ⊢
        have h1 := headK_ne hk 58
        have hd : rdBytes 98 (most : Int) bs = (headK 98 bs, [], []) := by
          unfold rdBytes
          rw [if_neg (show ¬ (most : Int) < 0 by omega), h1]
          rcases hq : headK 98 bs with _ | q
          · exact absurd hq hk
          · rfl
        rw [rBytes_zero 98 most _ hd, if_neg hk]
      · rw [if_neg h0]; unfold rBytes; rw [if_neg h0]
    rw [e] at hr
    simp only [Prod.mk.injEq] at hr
    exact bad _ hr.1.1.symm hr.1.2.symm hr.2.symm (run_head A n c k most hmo bs _ w hB h rfl hk)

set_option maxHeartbeats 1000000 in
theorem ReadBytes_s (A : Option Addr) (n c k most : Nat) (hmo : most ≤ 1000000) (bs : List UInt8) (w : World) (B : Nat) (hB : B ≤ w.heap.size) (h : Sl w B (.slice A n c) bs) (s1 x1 : List UInt8) (k1 n1 m1 : Nat) (hr : rBytes 98 (most : Int) (bs, k) = ((s1, k1), x1)) (hn : n1 = s1.length) (hm : m1 = x1.length) :
    Calls Tryz.prog 34 #[.agg #[.slice A n c, .int .i64 (k : Int)], .int .i64 (most : Int)] w fun x w' => ∃ A' c' Ab cb, x = .returned (.tuple #[.agg #[.slice A' n1 c', .int .i64 (k1 : Int)], .slice Ab m1 cb]) ∧ Sl w' B (.slice A' n1 c') s1 ∧ Sl w' B (.slice Ab m1 cb) x1 ∧ Below w.heap.size w w' := by
  obtain ⟨w0, hw0⟩ : ∃ w0, w0 = (w.alloc (Obj.cells #[Value.slice A n c, Value.int IntKind.i64 (k : Int)] 63)).alloc (Obj.cells #[Value.slice none 0 0, Value.int IntKind.i64 0] 63) := ⟨_, rfl⟩
  have hb0 : Below w.heap.size w w0 := by rw [hw0]; exact ((Below.refl _ _).alloc (Nat.le_refl _) _).alloc (by simp) _
  have hY : RB w0 (w.heap.size + 1) (.slice none 0 0) (.int .i64 0) := by rw [hw0]; exact heap_alloc2_new _ _ _
  have H := Lib.hid (run_s A n c k most hmo bs w0 B (Nat.le_trans hB hb0.size) (h.below (hb0.mono hB)) s1 x1 k1 n1 m1 hr hn hm)
  have HK := Lib.hid hB
  clear h hr hn hm hmo
  go_enter Tryz.func34, Tryz.ntmps34
  go_wp2_with fail
  rw [← hw0]
  refine H.out.mono ?_
  rintro x w1 ⟨A1, c1, A2, c2, rfl, hS1, hS2, hb1⟩
  obtain ⟨y0, y1, yf0, yf1⟩ := (hY.below hb1).facts
  have HB1 := Lib.hid (And.intro (hb0.trans (hb1.mono hb0.size)) (And.intro hS1 hS2))
  clear hw0 hb0 hY hb1 hS1 hS2
  go_wp2
  have hbf := (HB1.out.1.setCell (p := ⟨w.heap.size + 1, 0, none⟩) (by simp) (.slice A1 n1 c1)).setCell (p := ⟨w.heap.size + 1, 1, none⟩) (by simp) (.int .i64 (k1 : Int))
  have hbg := ((Below.refl B w1).setCell (p := ⟨w.heap.size + 1, 0, none⟩) (by have := HK.out; simp only; omega) (.slice A1 n1 c1)).setCell (p := ⟨w.heap.size + 1, 1, none⟩) (by have := HK.out; simp only; omega) (.int .i64 (k1 : Int))
  exact bodyPost_ret (v := .tuple #[.agg #[.slice A1 n1 c1, .int .i64 (k1 : Int)], .slice A2 m1 c2]) (by simp [results, Tryz.results34, go_sem, y0, y1]) rfl ⟨_, _, _, _, rfl, HB1.out.2.1.below hbg, HB1.out.2.2.below hbg, hbf⟩

end Go.Proofs.YtfblgkcipnkhaaaGreatDoor.pk

/-
  The document's own reader: an entry.
-/
namespace Go.Proofs.YtfblgkcipnkhaaaGreatDoor.pk
open Go Go.RowKit
set_option maxRecDepth 100000

theorem rUint_le (most : Nat) (s : List UInt8 × Nat) : (rUint most s).2 ≤ most := by
  unfold rUint
  by_cases h0 : s.2 = 0
  · rw [if_pos h0]
    by_cases h1 : (rdUint most s.1).1 = 0
    · rw [if_pos h1]
      exact (rdUint_inv (most := most) (l := s.1) (n := (rdUint most s.1).2.1) (r := (rdUint most s.1).2.2) (Prod.ext h1 rfl)).2.1
    · rw [if_neg h1]; exact Nat.zero_le _
  · rw [if_neg h0]; exact Nat.zero_le _

/-- A box of four cells. -/
def E4 (w : World) (g : Nat) (a b c d : Value) : Prop := w.heap[g]? = some (.cells #[a, b, c, d] 71 (0, 0))
theorem E4.lt {w : World} {g : Nat} {a b c d : Value} (h : E4 w g a b c d) : g < w.heap.size := obj_lt h
theorem E4.below {w w' : World} {g : Nat} {a b c d : Value} (h : E4 w g a b c d) (hb : Below w.heap.size w w') : E4 w' g a b c d := (hb.block g h.lt).trans h
theorem E4.other {w : World} {g : Nat} {a b c d : Value} (h : E4 w g a b c d) (p : Addr) (hp : g ≠ p.block) (u : Value) : E4 (w.setCell p u) g a b c d := (Below.heap_setCell w p u g hp).trans h
theorem RB.other1 {w : World} {g : Nat} {x y : Value} (h : RB w g x y) (p : Addr) (hp : g ≠ p.block) (u : Value) : RB (w.setCell p u) g x y := (Below.heap_setCell w p u g hp).trans h
theorem E4.set0 {w : World} {g : Nat} {a b c d : Value} (h : E4 w g a b c d) (u : Value) : E4 (w.setCell ⟨g, 0, none⟩ u) g u b c d := by
  unfold E4 at h ⊢; simp [World.setCell, Array.getElem?_modify, h]
theorem E4.set1 {w : World} {g : Nat} {a b c d : Value} (h : E4 w g a b c d) (u : Value) : E4 (w.setCell ⟨g, 1, none⟩ u) g a u c d := by
  unfold E4 at h ⊢; simp [World.setCell, Array.getElem?_modify, h]
theorem E4.set2 {w : World} {g : Nat} {a b c d : Value} (h : E4 w g a b c d) (u : Value) : E4 (w.setCell ⟨g, 2, none⟩ u) g a b u d := by
  unfold E4 at h ⊢; simp [World.setCell, Array.getElem?_modify, h]
theorem E4.set3 {w : World} {g : Nat} {a b c d : Value} (h : E4 w g a b c d) (u : Value) : E4 (w.setCell ⟨g, 3, none⟩ u) g a b c u := by
  unfold E4 at h ⊢; simp [World.setCell, Array.getElem?_modify, h]

/-- Where Take stands: its reader, the two results, the entry. -/
structure Tk (w : World) (g : Nat) (W : World) (x0 x1 a b c d : Value) : Prop where
  r : RB W g x0 x1
  y : RB W (g + 1) (.slice none 0 0) (.int .i64 0)
  z : E4 W (g + 2) (.int .i64 0) (.int .i64 0) (.int .i64 0) (.slice none 0 0)
  e : E4 W (g + 3) a b c d
  bel : Below g w W
section
variable {w W W' : World} {g : Nat} {x0 x1 a b c d : Value}
theorem Tk.call (h : Tk w g W x0 x1 a b c d) (hb : Below W.heap.size W W') : Tk w g W' x0 x1 a b c d :=
  ⟨h.r.below hb, h.y.below hb, h.z.below hb, h.e.below hb, h.bel.trans (hb.mono (Nat.le_of_lt h.r.lt))⟩
theorem Tk.setR (h : Tk w g W x0 x1 a b c d) (u v : Value) : Tk w g ((W.setCell ⟨g, 0, none⟩ u).setCell ⟨g, 1, none⟩ v) u v a b c d :=
  ⟨h.r.set u v, (h.y.other1 _ (by simp only; omega) _).other1 _ (by simp only; omega) _, (h.z.other _ (by simp only; omega) _).other _ (by simp only; omega) _, (h.e.other _ (by simp only; omega) _).other _ (by simp only; omega) _,
    (h.bel.setCell (p := ⟨g, 0, none⟩) (Nat.le_refl _) _).setCell (p := ⟨g, 1, none⟩) (Nat.le_refl _) _⟩
theorem Tk.set0 (h : Tk w g W x0 x1 a b c d) (u : Value) : Tk w g (W.setCell ⟨g + 3, 0, none⟩ u) x0 x1 u b c d :=
  ⟨h.r.other1 _ (by simp only; omega) _, h.y.other1 _ (by simp only; omega) _, h.z.other _ (by simp only; omega) _, h.e.set0 u, h.bel.setCell (p := ⟨g + 3, 0, none⟩) (by simp only; omega) _⟩
theorem Tk.set1 (h : Tk w g W x0 x1 a b c d) (u : Value) : Tk w g (W.setCell ⟨g + 3, 1, none⟩ u) x0 x1 a u c d :=
  ⟨h.r.other1 _ (by simp only; omega) _, h.y.other1 _ (by simp only; omega) _, h.z.other _ (by simp only; omega) _, h.e.set1 u, h.bel.setCell (p := ⟨g + 3, 1, none⟩) (by simp only; omega) _⟩
theorem Tk.set2 (h : Tk w g W x0 x1 a b c d) (u : Value) : Tk w g (W.setCell ⟨g + 3, 2, none⟩ u) x0 x1 a b u d :=
  ⟨h.r.other1 _ (by simp only; omega) _, h.y.other1 _ (by simp only; omega) _, h.z.other _ (by simp only; omega) _, h.e.set2 u, h.bel.setCell (p := ⟨g + 3, 2, none⟩) (by simp only; omega) _⟩
theorem Tk.set3 (h : Tk w g W x0 x1 a b c d) (u : Value) : Tk w g (W.setCell ⟨g + 3, 3, none⟩ u) x0 x1 a b c u :=
  ⟨h.r.other1 _ (by simp only; omega) _, h.y.other1 _ (by simp only; omega) _, h.z.other _ (by simp only; omega) _, h.e.set3 u, h.bel.setCell (p := ⟨g + 3, 3, none⟩) (by simp only; omega) _⟩
end

theorem tk_start (w : World) (u v : Value) : ∃ W, W = (((w.alloc (Obj.cells #[u, v] 63)).alloc (Obj.cells #[Value.slice none 0 0, Value.int IntKind.i64 0] 63)).alloc (Obj.cells #[Value.int .i64 0, Value.int .i64 0, Value.int .i64 0, Value.slice none 0 0] 71)).alloc (Obj.cells #[Value.int .i64 0, Value.int .i64 0, Value.int .i64 0, Value.slice none 0 0] 71) ∧
    Tk w w.heap.size W u v (.int .i64 0) (.int .i64 0) (.int .i64 0) (.slice none 0 0) := by
  refine ⟨_, rfl, ?_⟩
  obtain ⟨W1, h1⟩ : ∃ W1, W1 = w.alloc (Obj.cells #[u, v] 63) := ⟨_, rfl⟩
  obtain ⟨W2, h2⟩ : ∃ W2, W2 = W1.alloc (Obj.cells #[Value.slice none 0 0, Value.int IntKind.i64 0] 63) := ⟨_, rfl⟩
  obtain ⟨W3, h3⟩ : ∃ W3, W3 = W2.alloc (Obj.cells #[Value.int .i64 0, Value.int .i64 0, Value.int .i64 0, Value.slice none 0 0] 71) := ⟨_, rfl⟩
  rw [← h1, ← h2, ← h3]
  have b1 : Below w.heap.size w W1 := by rw [h1]; exact below_alloc _ _
  have b2 : Below W1.heap.size W1 W2 := by rw [h2]; exact below_alloc _ _
  have b3 : Below W2.heap.size W2 W3 := by rw [h3]; exact below_alloc _ _
  have b4 := below_alloc W3 (Obj.cells #[Value.int .i64 0, Value.int .i64 0, Value.int .i64 0, Value.slice none 0 0] 71)
  have s1 : W1.heap.size = w.heap.size + 1 := by rw [h1, World.size_alloc]
  have s2 : W2.heap.size = w.heap.size + 2 := by rw [h2, World.size_alloc, s1]
  have s3 : W3.heap.size = w.heap.size + 3 := by rw [h3, World.size_alloc, s2]
  have r1 : RB W1 w.heap.size u v := by rw [h1]; exact heap_alloc_new w _
  have y1 : RB W2 (w.heap.size + 1) (.slice none 0 0) (.int .i64 0) := by rw [h2, ← s1]; exact heap_alloc_new W1 _
  have z1 : E4 W3 (w.heap.size + 2) (.int .i64 0) (.int .i64 0) (.int .i64 0) (.slice none 0 0) := by rw [h3, ← s2]; exact heap_alloc_new W2 _
  have e1 : E4 (W3.alloc (Obj.cells #[Value.int .i64 0, Value.int .i64 0, Value.int .i64 0, Value.slice none 0 0] 71)) (w.heap.size + 3) (.int .i64 0) (.int .i64 0) (.int .i64 0) (.slice none 0 0) := by rw [← s3]; exact heap_alloc_new W3 _
  exact ⟨((r1.below b2).below b3).below b4, (y1.below b3).below b4, z1.below b4, e1, ((b1.trans (b2.mono (by omega))).trans (b3.mono (by omega))).trans (b4.mono (by omega))⟩

theorem RB.drew_ {w : World} {g : Nat} {x y : Value} (h : RB w g x y) : RB w.drew g x y := h
theorem E4.drew_ {w : World} {g : Nat} {a b c d : Value} (h : E4 w g a b c d) : E4 w.drew g a b c d := h
theorem take_end {w W : World} {g : Nat} {x0 x1 a b c d : Value} (T : Tk w g W x0 x1 a b c d) (p q e0 e1 e2 e3 : Value) : ∃ F, F = ((((((W.setCell ⟨g + 1, 0, none⟩ p).setCell ⟨g + 1, 1, none⟩ q).setCell ⟨g + 2, 0, none⟩ e0).setCell ⟨g + 2, 1, none⟩ e1).setCell ⟨g + 2, 2, none⟩ e2).setCell ⟨g + 2, 3, none⟩ e3).drew ∧
    RB F (g + 1) p q ∧ E4 F (g + 2) e0 e1 e2 e3 ∧ ∀ Q, Q ≤ g → Below Q W F := by
  have hne : g + 1 ≠ g + 2 := by omega
  have hne' : g + 2 ≠ g + 1 := by omega
  refine ⟨_, rfl, RB.drew_ ?_, E4.drew_ ?_, fun Q hQ => Below.drew ?_⟩
  · exact ((((T.y.set p q).other1 ⟨g + 2, 0, none⟩ hne e0).other1 ⟨g + 2, 1, none⟩ hne e1).other1 ⟨g + 2, 2, none⟩ hne e2).other1 ⟨g + 2, 3, none⟩ hne e3
  · have h1 := (T.z.other ⟨g + 1, 0, none⟩ hne' p).other ⟨g + 1, 1, none⟩ hne' q
    exact (((h1.set0 e0).set1 e1).set2 e2).set3 e3
  · have h1 : Q ≤ g + 1 := by omega
    have h2 : Q ≤ g + 2 := by omega
    exact ((((((Below.refl Q W).setCell (p := ⟨g + 1, 0, none⟩) h1 p).setCell (p := ⟨g + 1, 1, none⟩) h1 q).setCell (p := ⟨g + 2, 0, none⟩) h2 e0).setCell (p := ⟨g + 2, 1, none⟩) h2 e1).setCell (p := ⟨g + 2, 2, none⟩) h2 e2).setCell (p := ⟨g + 2, 3, none⟩) h2 e3

set_option maxHeartbeats 8000000 in
theorem Take_s (A : Option Addr) (n c k : Nat) (bs : List UInt8) (w : World) (B : Nat) (hB : B ≤ w.heap.size) (h : Sl w B (.slice A n c) bs) (s4 : List UInt8) (k4 n4 m : Nat) (en : En) (hr : takeE (bs, k) = ((s4, k4), en)) (hn : n4 = s4.length) (hm : m = en.data.length) :
    Calls Tryz.prog 69 #[.agg #[.slice A n c, .int .i64 (k : Int)]] w fun x w' => ∃ A' c' Ab cb, x = .returned (.tuple #[.agg #[.slice A' n4 c', .int .i64 (k4 : Int)], .agg #[.int .i64 en.index, .int .i64 en.term, .int .i64 en.kind, .slice Ab m cb]]) ∧
      Sl w' B (.slice A' n4 c') s4 ∧ Sl w' B (.slice Ab m cb) en.data ∧ Below w.heap.size w w' := by
  rcases h1 : rUint 1099511627776 (bs, k) with ⟨⟨s1, k1⟩, v1⟩
  rcases h2 : rUint 1099511627776 (s1, k1) with ⟨⟨s2, k2⟩, v2⟩
  rcases h3 : rUint 2 (s2, k2) with ⟨⟨s3, k3⟩, v3⟩
  rcases h4 : rBytes 98 4096 (s3, k3) with ⟨⟨s4', k4'⟩, x⟩
  have l1 : v1 ≤ 1099511627776 := by have := rUint_le 1099511627776 (bs, k); rw [h1] at this; exact this
  have l2 : v2 ≤ 1099511627776 := by have := rUint_le 1099511627776 (s1, k1); rw [h2] at this; exact this
  have l3 : v3 ≤ 2 := by have := rUint_le 2 (s2, k2); rw [h3] at this; exact this
  unfold takeE at hr
  simp only [h1, h2, h3, h4, Prod.mk.injEq] at hr
  obtain ⟨⟨rfl, rfl⟩, rfl⟩ := hr
  have q1 : IntKind.i64.wrap (v1 : Int) = (v1 : Int) := IntWalk.i64_in _ (by omega)
  have q2 : IntKind.i64.wrap (v2 : Int) = (v2 : Int) := IntWalk.i64_in _ (by omega)
  have q3 : IntKind.i64.wrap (v3 : Int) = (v3 : Int) := IntWalk.i64_in _ (by omega)
  obtain ⟨n1, hn1⟩ : ∃ n1, n1 = s1.length := ⟨_, rfl⟩
  obtain ⟨n2, hn2⟩ : ∃ n2, n2 = s2.length := ⟨_, rfl⟩
  obtain ⟨n3, hn3⟩ : ∃ n3, n3 = s3.length := ⟨_, rfl⟩
  obtain ⟨W0, hW0, T0⟩ := tk_start w (.slice A n c) (.int .i64 (k : Int))
  have C1 := Lib.hid fun W hB' hS => ReadUint_s A n c k 1099511627776 bs W B hB' hS s1 k1 v1 n1 h1 hn1
  have C2 := Lib.hid fun A c W hB' hS => ReadUint_s A n1 c k1 1099511627776 s1 W B hB' hS s2 k2 v2 n2 h2 hn2
  have C3 := Lib.hid fun A c W hB' hS => ReadUint_s A n2 c k2 2 s2 W B hB' hS s3 k3 v3 n3 h3 hn3
  have C4 := Lib.hid fun A c W hB' hS => ReadBytes_s A n3 c k3 4096 (by omega) s3 W B hB' hS s4' x k4' n4 m h4 hn hm
  have HB := Lib.hid hB
  have hg : B ≤ w.heap.size := hB
  obtain ⟨g, hge⟩ : ∃ g, g = w.heap.size := ⟨_, rfl⟩
  have HS := Lib.hid h
  have HG := Lib.hid hge
  have hres : Tryz.f69.results = #[.cell 2 63, .cell 3 71] := by kernel_rfl
  rw [← hge] at T0 hg
  have HT0 := Lib.hid (And.intro T0 hg)
  clear h h1 h2 h3 h4 l1 l2 l3 hn hm hn1 hn2 hn3 hB hge T0 hg
  go_enter Tryz.func69, Tryz.ntmps69
  go_upto_region 3 with fail
  rw [← hW0]
  simp only [World.size_alloc, Nat.add_assoc, Nat.reduceAdd]
  rw [← HG.out]
  clear hW0
  obtain ⟨x0, x1, xf0, xf1⟩ := HT0.out.1.r.facts
  go_upto_region 5 with (go_at_call 66; go_must (refine (C1.out _ (Nat.le_trans HT0.out.2 (Nat.le_of_lt HT0.out.1.r.lt)) (HS.out.below (HT0.out.1.bel.mono HT0.out.2))).mono ?_; rintro y w1 ⟨A1, c1, rfl, hS1, hb1⟩; have U1 := HT0.out.1.call hb1; obtain ⟨x0, x1, xf0, xf1⟩ := U1.r.facts; obtain ⟨e0, e1, e2, e3⟩ := cells4 U1.e; have f0 := frozen_own U1.e 0; have f1 := frozen_own U1.e 1; have f2 := frozen_own U1.e 2; have f3 := frozen_own U1.e 3; have HU1 := Lib.hid (And.intro U1 hS1); clear U1 hb1 hS1))
  clear x0 x1 xf0 xf1 e0 e1 e2 e3 f0 f1 f2 f3
  obtain ⟨W1, hW1⟩ : ∃ W, W = ((w1.setCell ⟨g, 0, none⟩ (.slice A1 n1 c1)).setCell ⟨g, 1, none⟩ (.int .i64 (k1 : Int))).setCell ⟨g + 3, 0, none⟩ (.int .i64 (v1 : Int)) := ⟨_, rfl⟩
  have T1 := (HU1.out.1.setR (.slice A1 n1 c1) (.int .i64 (k1 : Int))).set0 (.int .i64 (v1 : Int))
  have S1 := HU1.out.2.below (show Below B w1 (((w1.setCell ⟨g, 0, none⟩ (.slice A1 n1 c1)).setCell ⟨g, 1, none⟩ (.int .i64 (k1 : Int))).setCell ⟨g + 3, 0, none⟩ (.int .i64 (v1 : Int))) from (((Below.refl B w1).setCell (p := ⟨g, 0, none⟩) HT0.out.2 _).setCell (p := ⟨g, 1, none⟩) HT0.out.2 _).setCell (p := ⟨g + 3, 0, none⟩) (by have := HT0.out.2; simp only; omega) _)
  rw [← hW1] at T1 S1 ⊢
  have HT1 := Lib.hid (And.intro T1 S1)
  clear T1 S1 hW1
  obtain ⟨x0, x1, xf0, xf1⟩ := HT1.out.1.r.facts
  go_upto_region 7 with (go_at_call 66; go_must (refine (C2.out A1 c1 _ (Nat.le_trans HT0.out.2 (Nat.le_of_lt HT1.out.1.r.lt)) HT1.out.2).mono ?_; rintro y w2 ⟨A2, c2, rfl, hS2, hb2⟩; have U2 := HT1.out.1.call hb2; obtain ⟨x0, x1, xf0, xf1⟩ := U2.r.facts; obtain ⟨e0, e1, e2, e3⟩ := cells4 U2.e; have f0 := frozen_own U2.e 0; have f1 := frozen_own U2.e 1; have f2 := frozen_own U2.e 2; have f3 := frozen_own U2.e 3; have HU2 := Lib.hid (And.intro U2 hS2); clear U2 hb2 hS2))
  clear x0 x1 xf0 xf1 e0 e1 e2 e3 f0 f1 f2 f3
  obtain ⟨W2, hW2⟩ : ∃ W, W = ((w2.setCell ⟨g, 0, none⟩ (.slice A2 n2 c2)).setCell ⟨g, 1, none⟩ (.int .i64 (k2 : Int))).setCell ⟨g + 3, 1, none⟩ (.int .i64 (v2 : Int)) := ⟨_, rfl⟩
  have T2 := (HU2.out.1.setR (.slice A2 n2 c2) (.int .i64 (k2 : Int))).set1 (.int .i64 (v2 : Int))
  have S2 := HU2.out.2.below (show Below B w2 (((w2.setCell ⟨g, 0, none⟩ (.slice A2 n2 c2)).setCell ⟨g, 1, none⟩ (.int .i64 (k2 : Int))).setCell ⟨g + 3, 1, none⟩ (.int .i64 (v2 : Int))) from (((Below.refl B w2).setCell (p := ⟨g, 0, none⟩) HT0.out.2 _).setCell (p := ⟨g, 1, none⟩) HT0.out.2 _).setCell (p := ⟨g + 3, 1, none⟩) (by have := HT0.out.2; simp only; omega) _)
  rw [← hW2] at T2 S2 ⊢
  have HT2 := Lib.hid (And.intro T2 S2)
  clear T2 S2 hW2
  obtain ⟨x0, x1, xf0, xf1⟩ := HT2.out.1.r.facts
  go_upto_region 9 with (go_at_call 66; go_must (refine (C3.out A2 c2 _ (Nat.le_trans HT0.out.2 (Nat.le_of_lt HT2.out.1.r.lt)) HT2.out.2).mono ?_; rintro y w3 ⟨A3, c3, rfl, hS3, hb3⟩; have U3 := HT2.out.1.call hb3; obtain ⟨x0, x1, xf0, xf1⟩ := U3.r.facts; obtain ⟨e0, e1, e2, e3⟩ := cells4 U3.e; have f0 := frozen_own U3.e 0; have f1 := frozen_own U3.e 1; have f2 := frozen_own U3.e 2; have f3 := frozen_own U3.e 3; have HU3 := Lib.hid (And.intro U3 hS3); clear U3 hb3 hS3))
  clear x0 x1 xf0 xf1 e0 e1 e2 e3 f0 f1 f2 f3
  obtain ⟨W3, hW3⟩ : ∃ W, W = ((w3.setCell ⟨g, 0, none⟩ (.slice A3 n3 c3)).setCell ⟨g, 1, none⟩ (.int .i64 (k3 : Int))).setCell ⟨g + 3, 2, none⟩ (.int .i64 (v3 : Int)) := ⟨_, rfl⟩
  have T3 := (HU3.out.1.setR (.slice A3 n3 c3) (.int .i64 (k3 : Int))).set2 (.int .i64 (v3 : Int))
  have S3 := HU3.out.2.below (show Below B w3 (((w3.setCell ⟨g, 0, none⟩ (.slice A3 n3 c3)).setCell ⟨g, 1, none⟩ (.int .i64 (k3 : Int))).setCell ⟨g + 3, 2, none⟩ (.int .i64 (v3 : Int))) from (((Below.refl B w3).setCell (p := ⟨g, 0, none⟩) HT0.out.2 _).setCell (p := ⟨g, 1, none⟩) HT0.out.2 _).setCell (p := ⟨g + 3, 2, none⟩) (by have := HT0.out.2; simp only; omega) _)
  rw [← hW3] at T3 S3 ⊢
  have HT3 := Lib.hid (And.intro T3 S3)
  clear T3 S3 hW3
  obtain ⟨x0, x1, xf0, xf1⟩ := HT3.out.1.r.facts
  go_upto_region 10 with (go_at_call 34; go_must (refine (C4.out A3 c3 _ (Nat.le_trans HT0.out.2 (Nat.le_of_lt HT3.out.1.r.lt)) HT3.out.2).mono ?_; rintro y w4 ⟨A4, c4, Ab, cb, rfl, hS4, hX4, hb4⟩; have U4 := HT3.out.1.call hb4; obtain ⟨x0, x1, xf0, xf1⟩ := U4.r.facts; obtain ⟨e0, e1, e2, e3⟩ := cells4 U4.e; have f3 := frozen_own U4.e 3; have HU4 := Lib.hid (And.intro U4 (And.intro hS4 hX4)); clear U4 hb4 hS4 hX4))
  clear x0 x1 xf0 xf1 e0 e1 e2 e3 f3
  obtain ⟨W4, hW4⟩ : ∃ W, W = ((w4.setCell ⟨g, 0, none⟩ (.slice A4 n4 c4)).setCell ⟨g, 1, none⟩ (.int .i64 (k4' : Int))).setCell ⟨g + 3, 3, none⟩ (.slice Ab m cb) := ⟨_, rfl⟩
  have T4 := (HU4.out.1.setR (.slice A4 n4 c4) (.int .i64 (k4' : Int))).set3 (.slice Ab m cb)
  have bb : Below B w4 (((w4.setCell ⟨g, 0, none⟩ (.slice A4 n4 c4)).setCell ⟨g, 1, none⟩ (.int .i64 (k4' : Int))).setCell ⟨g + 3, 3, none⟩ (.slice Ab m cb)) := (((Below.refl B w4).setCell (p := ⟨g, 0, none⟩) HT0.out.2 _).setCell (p := ⟨g, 1, none⟩) HT0.out.2 _).setCell (p := ⟨g + 3, 3, none⟩) (by have := HT0.out.2; simp only; omega) _
  have S4 := HU4.out.2.1.below bb
  have X4 := HU4.out.2.2.below bb
  rw [← hW4] at T4 S4 X4 ⊢
  have HT4 := Lib.hid (And.intro T4 (And.intro S4 X4))
  clear T4 S4 X4 hW4 bb
  obtain ⟨x0, x1, xf0, xf1⟩ := HT4.out.1.r.facts
  obtain ⟨y0, y1, yf0, yf1⟩ := HT4.out.1.y.facts
  obtain ⟨z0, z1, z2, z3⟩ := cells4 HT4.out.1.z
  obtain ⟨e0, e1, e2, e3⟩ := cells4 HT4.out.1.e
  have zf0 := frozen_own HT4.out.1.z 0
  have zf1 := frozen_own HT4.out.1.z 1
  have zf2 := frozen_own HT4.out.1.z 2
  have zf3 := frozen_own HT4.out.1.z 3
  go_region
  go_wp2
  obtain ⟨F, hF, yF, zF, bF⟩ := take_end HT4.out.1 (.slice A4 n4 c4) (.int .i64 (k4' : Int)) (.int .i64 (v1 : Int)) (.int .i64 (v2 : Int)) (.int .i64 (v3 : Int)) (.slice Ab m cb)
  rw [← hF]
  clear hF
  clear y0 y1 z0 z1 z2 z3
  obtain ⟨y0, y1, -, -⟩ := yF.facts
  obtain ⟨z0, z1, z2, z3⟩ := cells4 zF
  have hb1 := bF B HT0.out.2
  have hb2 := HT4.out.1.bel.trans (bF g (Nat.le_refl _))
  have HF := Lib.hid (And.intro hb1 hb2)
  clear bF yF zF hb1 hb2
  refine bodyPost_ret (v := .tuple #[.agg #[.slice A4 n4 c4, .int .i64 (k4' : Int)], .agg #[.int .i64 (v1 : Int), .int .i64 (v2 : Int), .int .i64 (v3 : Int), .slice Ab m cb]]) ?_ rfl ⟨A4, c4, Ab, cb, rfl, HT4.out.2.1.below HF.out.1, HT4.out.2.2.below HF.out.1, by have := HF.out.2; rw [HG.out] at this; exact this⟩
  simp only [results, hres]
  go_simp

end Go.Proofs.YtfblgkcipnkhaaaGreatDoor.pk

/-
  The document's own reader: what bytes are as an entry.
-/
namespace Go.Proofs.YtfblgkcipnkhaaaGreatDoor.pk
open Go Go.RowKit
set_option maxRecDepth 100000

theorem dec_cases {b : List UInt8} {s4 : List UInt8} {k4 d k : Nat} {e e' : En} (ht : takeE (b, 0) = ((s4, k4), e)) (hd : d = doneR (s4, k4)) (hr : decE b = (e', k)) :
    (d ≠ 0 ∧ e' = ⟨0, 0, 0, []⟩ ∧ k = 3) ∨ (d = 0 ∧ e.index < 1 ∧ e' = ⟨0, 0, 0, []⟩ ∧ k = 3) ∨ (d = 0 ∧ ¬ e.index < 1 ∧ e.term < 1 ∧ e' = ⟨0, 0, 0, []⟩ ∧ k = 3) ∨ (d = 0 ∧ ¬ e.index < 1 ∧ ¬ e.term < 1 ∧ e' = e ∧ k = 0) := by
  unfold decE at hr
  simp only [ht, ← hd] at hr
  by_cases h0 : d = 0
  · by_cases h1 : e.index < 1
    · rw [if_pos (Or.inr (Or.inl h1))] at hr
      injection hr with a b
      exact Or.inr (Or.inl ⟨h0, h1, a.symm, b.symm⟩)
    · by_cases h2 : e.term < 1
      · rw [if_pos (Or.inr (Or.inr h2))] at hr
        injection hr with a b
        exact Or.inr (Or.inr (Or.inl ⟨h0, h1, h2, a.symm, b.symm⟩))
      · rw [if_neg (fun h => h.elim (fun h => h h0) fun h => h.elim h1 h2)] at hr
        injection hr with a b
        exact Or.inr (Or.inr (Or.inr ⟨h0, h1, h2, a.symm, b.symm⟩))
  · rw [if_pos (Or.inl h0)] at hr
    injection hr with a b
    exact Or.inl ⟨h0, a.symm, b.symm⟩

/-- Behind Take: the two boxes. -/
theorem dec_boxes {w w0 w1 : World} {g : Nat} {z0 z1 z2 z3 : Value} (u v a b c d : Value) (hw : g < w0.heap.size) (hz : E4 w0 g z0 z1 z2 z3) (hb0 : Below g w w0) (hb1 : Below w0.heap.size w0 w1) :
    ∃ W q, W = (w1.alloc (Obj.cells #[u, v] 63)).alloc (Obj.cells #[a, b, c, d] 71) ∧ q = w1.heap.size ∧ RB W q u v ∧ E4 W (q + 1) a b c d ∧ E4 W g z0 z1 z2 z3 ∧ Below g w W ∧ Below w1.heap.size w1 W := by
  have h1 := below_alloc w1 (Obj.cells #[u, v] 63)
  have h2 := below_alloc (w1.alloc (Obj.cells #[u, v] 63)) (Obj.cells #[a, b, c, d] 71)
  have hs1 := hb1.size
  have hsz : (w1.alloc (Obj.cells #[u, v] 63)).heap.size = w1.heap.size + 1 := World.size_alloc _ _
  have h12 : Below w1.heap.size w1 ((w1.alloc (Obj.cells #[u, v] 63)).alloc (Obj.cells #[a, b, c, d] 71)) := h1.trans (h2.mono (by omega))
  refine ⟨_, _, rfl, rfl, ?_, ?_, (hz.below hb1).below h12, (hb0.trans (hb1.mono (Nat.le_of_lt hw))).trans (h12.mono (by omega)), h12⟩
  · have r : RB (w1.alloc (Obj.cells #[u, v] 63)) w1.heap.size u v := heap_alloc_new w1 _
    exact r.below h2
  · unfold E4
    rw [← hsz]
    exact heap_alloc_new _ _

set_option maxHeartbeats 8000000 in
theorem RefDec_s (A : Option Addr) (n c : Nat) (b : List UInt8) (w : World) (B : Nat) (hB : B ≤ w.heap.size) (h : Sl w B (.slice A n c) b) (e : En) (k m : Nat) (hr : decE b = (e, k)) (hm : m = e.data.length) :
    Calls Tryz.prog 36 #[.slice A n c] w fun x w' => ∃ Ab cb, x = .returned (.tuple #[.agg #[.int .i64 e.index, .int .i64 e.term, .int .i64 e.kind, .slice Ab m cb], .int .i64 (k : Int)]) ∧ Sl w' B (.slice Ab m cb) e.data ∧ Below w.heap.size w w' := by
  rcases ht : takeE (b, 0) with ⟨⟨s4, k4⟩, e0⟩
  obtain ⟨n4, hn4⟩ : ∃ n4, n4 = s4.length := ⟨_, rfl⟩
  obtain ⟨m0, hm0⟩ : ∃ m0, m0 = e0.data.length := ⟨_, rfl⟩
  obtain ⟨d, hd⟩ : ∃ d, d = doneR (s4, k4) := ⟨_, rfl⟩
  obtain ⟨w0, g, hw0, hg, hb0, hz0, hsz⟩ := one_box w (.cells #[.int .i64 0, .int .i64 0, .int .i64 0, .slice none 0 0] 71)
  have hz : E4 w0 g (.int .i64 0) (.int .i64 0) (.int .i64 0) (.slice none 0 0) := hz0
  have HT := Lib.hid (Take_s A n c 0 b w0 B (Nat.le_trans hB hb0.size) (h.below (hb0.mono hB)) s4 k4 n4 m0 e0 ht hn4 hm0)
  have HD := Lib.hid fun A c W => RefDone_s A n4 c k4 s4 hn4 W d hd
  have HC := Lib.hid (dec_cases ht hd hr)
  have hgB : B ≤ g := by rw [hg]; exact hB
  have HZ := Lib.hid (And.intro hz (And.intro (show g < w0.heap.size by omega) (And.intro (show Below g w w0 by rw [hg]; exact hb0) (And.intro hgB (And.intro hm hm0)))))
  have HG := Lib.hid hg
  have HW := Lib.hid hw0
  have e00 : ((0 : Nat) : Int) = 0 := rfl
  rw [e00] at HT
  clear h ht hr hm hn4 hm0 hd hw0 hg hb0 hz0 hsz hz hgB hB
  go_enter Tryz.func36, Tryz.ntmps36
  go_upto_region 1 with fail
  rw [← HW.out, ← HG.out]
  go_upto_region 2 with (go_at_call 69; go_must (refine HT.out.mono ?_; rintro y w1 ⟨A1, c1, A2, c2, rfl, hS1, hS2, hb1⟩; obtain ⟨W, q, hW, hq, hrb, heb, hzb, hbW, hb1W⟩ := dec_boxes (.slice A1 n4 c1) (.int .i64 (k4 : Int)) (.int .i64 e0.index) (.int .i64 e0.term) (.int .i64 e0.kind) (.slice A2 m0 c2) HZ.out.2.1 HZ.out.1 HZ.out.2.2.1 hb1; have HQ := Lib.hid (And.intro hW hq); have HX := Lib.hid (And.intro hrb (And.intro heb (And.intro hzb (And.intro hbW (hS2.below (hb1W.mono (Nat.le_trans HZ.out.2.2.2.1 (Nat.le_trans (Nat.le_of_lt HZ.out.2.1) hb1.size)))))))); clear hW hq hrb heb hzb hbW hb1W hb1 hS1 hS2))
  rw [← HQ.out.1, ← HQ.out.2]
  obtain ⟨x0, x1, xf0, xf1⟩ := HX.out.1.facts
  obtain ⟨e0c, e1c, e2c, e3c⟩ := cells4 HX.out.2.1
  have HDD := Lib.hid (HD.out A1 c1 W)
  have fin : ∀ (W2 : World) (a b c d : Value), Below W.heap.size W W2 → ∃ F, F = put4 W2 g a b c d ∧ E4 F g a b c d ∧ Below w.heap.size w F ∧ Below B W F := fun W2 a b c d hb => by
    have hg := HG.out
    have h1 := HX.out.2.2.1.below hb
    refine ⟨_, rfl, put4_own h1 _ _ _ _, ?_, ?_⟩
    · rw [← hg]
      exact put4_below (HX.out.2.2.2.1.trans (hb.mono (Nat.le_of_lt HX.out.2.2.1.lt))) (Nat.le_refl _)
    · exact put4_below (hb.mono (Nat.le_trans HZ.out.2.2.2.1 (Nat.le_of_lt HX.out.2.2.1.lt))) HZ.out.2.2.2.1
  have FIN := Lib.hid fin
  clear fin
  have hzf := fun (W2 : World) (hb : Below W.heap.size W W2) => frozen_own (HX.out.2.2.1.below hb)
  have HZF := Lib.hid hzf
  have HXB := Lib.hid fun (W2 : World) (hb : Below W.heap.size W W2) => cells4 (HX.out.2.1.below hb)
  have HZC := Lib.hid fun (W2 : World) (hb : Below W.heap.size W W2) => cells4 (HX.out.2.2.1.below hb)
  clear hzf e0c e1c e2c e3c
  rcases HC.out with ⟨c0, r1, r2⟩ | ⟨c0, ci, r1, r2⟩ | ⟨c0, ci, ct, r1, r2⟩ | ⟨c0, ci, ct, r1, r2⟩
  · have hz : ((d : Int) != 0) = true := by simp; omega
    have HR := Lib.hid (And.intro r1 r2)
    clear c0 r1 r2
    go_wp2_with (go_at_call 37; go_must (refine HDD.out.mono ?_; rintro y W2 ⟨rfl, hb2⟩; obtain ⟨e0c, e1c, e2c, e3c⟩ := HXB.out W2 hb2; obtain ⟨z0c, z1c, z2c, z3c⟩ := HZC.out W2 hb2; have f0 := HZF.out W2 hb2 0; have f1 := HZF.out W2 hb2 1; have f2 := HZF.out W2 hb2 2; have f3 := HZF.out W2 hb2 3; have HB2 := Lib.hid hb2; clear hb2))
    obtain ⟨F, hF, hE, hbF, hbG⟩ := FIN.out W2 (.int .i64 0) (.int .i64 0) (.int .i64 0) (.slice none 0 0) HB2.out
    unfold put4 at hF
    rw [← hF]
    clear hF z0c z1c z2c z3c
    obtain ⟨z0c, z1c, z2c, z3c⟩ := cells4 hE
    have hm := HZ.out.2.2.2.2.1
    rw [HR.out.1] at hm
    have hm' : m = 0 := hm
    rw [HR.out.1, HR.out.2, hm']
    exact bodyPost_ret (v := .tuple #[.agg #[.int .i64 0, .int .i64 0, .int .i64 0, .slice none 0 0], .int .i64 3]) (by simp [results, Tryz.results36, go_sem, z0c, z1c, z2c, z3c]) rfl ⟨none, 0, rfl, Sl.nil_ _ _, hbF⟩
  · subst c0
    have HR := Lib.hid (And.intro r1 r2)
    clear r1 r2
    go_wp2_with (go_at_call 37; go_must (refine HDD.out.mono ?_; rintro y W2 ⟨rfl, hb2⟩; obtain ⟨e0c, e1c, e2c, e3c⟩ := HXB.out W2 hb2; obtain ⟨z0c, z1c, z2c, z3c⟩ := HZC.out W2 hb2; have f0 := HZF.out W2 hb2 0; have f1 := HZF.out W2 hb2 1; have f2 := HZF.out W2 hb2 2; have f3 := HZF.out W2 hb2 3; have HB2 := Lib.hid hb2; clear hb2))
    obtain ⟨F, hF, hE, hbF, hbG⟩ := FIN.out W2 (.int .i64 0) (.int .i64 0) (.int .i64 0) (.slice none 0 0) HB2.out
    unfold put4 at hF
    rw [← hF]
    clear hF z0c z1c z2c z3c
    obtain ⟨z0c, z1c, z2c, z3c⟩ := cells4 hE
    have hm := HZ.out.2.2.2.2.1
    rw [HR.out.1] at hm
    have hm' : m = 0 := hm
    rw [HR.out.1, HR.out.2, hm']
    exact bodyPost_ret (v := .tuple #[.agg #[.int .i64 0, .int .i64 0, .int .i64 0, .slice none 0 0], .int .i64 3]) (by simp [results, Tryz.results36, go_sem, z0c, z1c, z2c, z3c]) rfl ⟨none, 0, rfl, Sl.nil_ _ _, hbF⟩
  · subst c0
    have HR := Lib.hid (And.intro r1 r2)
    clear r1 r2
    go_wp2_with (go_at_call 37; go_must (refine HDD.out.mono ?_; rintro y W2 ⟨rfl, hb2⟩; obtain ⟨e0c, e1c, e2c, e3c⟩ := HXB.out W2 hb2; obtain ⟨z0c, z1c, z2c, z3c⟩ := HZC.out W2 hb2; have f0 := HZF.out W2 hb2 0; have f1 := HZF.out W2 hb2 1; have f2 := HZF.out W2 hb2 2; have f3 := HZF.out W2 hb2 3; have HB2 := Lib.hid hb2; clear hb2))
    obtain ⟨F, hF, hE, hbF, hbG⟩ := FIN.out W2 (.int .i64 0) (.int .i64 0) (.int .i64 0) (.slice none 0 0) HB2.out
    unfold put4 at hF
    rw [← hF]
    clear hF z0c z1c z2c z3c
    obtain ⟨z0c, z1c, z2c, z3c⟩ := cells4 hE
    have hm := HZ.out.2.2.2.2.1
    rw [HR.out.1] at hm
    have hm' : m = 0 := hm
    rw [HR.out.1, HR.out.2, hm']
    exact bodyPost_ret (v := .tuple #[.agg #[.int .i64 0, .int .i64 0, .int .i64 0, .slice none 0 0], .int .i64 3]) (by simp [results, Tryz.results36, go_sem, z0c, z1c, z2c, z3c]) rfl ⟨none, 0, rfl, Sl.nil_ _ _, hbF⟩
  · subst c0
    have HR := Lib.hid (And.intro r1 r2)
    clear r1 r2
    go_wp2_with (go_at_call 37; go_must (refine HDD.out.mono ?_; rintro y W2 ⟨rfl, hb2⟩; obtain ⟨e0c, e1c, e2c, e3c⟩ := HXB.out W2 hb2; obtain ⟨z0c, z1c, z2c, z3c⟩ := HZC.out W2 hb2; have f0 := HZF.out W2 hb2 0; have f1 := HZF.out W2 hb2 1; have f2 := HZF.out W2 hb2 2; have f3 := HZF.out W2 hb2 3; have HB2 := Lib.hid hb2; clear hb2))
    obtain ⟨F, hF, hE, hbF, hbG⟩ := FIN.out W2 (.int .i64 e0.index) (.int .i64 e0.term) (.int .i64 e0.kind) (.slice A2 m0 c2) HB2.out
    unfold put4 at hF
    rw [← hF]
    clear hF z0c z1c z2c z3c
    obtain ⟨z0c, z1c, z2c, z3c⟩ := cells4 hE
    have hm := HZ.out.2.2.2.2.1
    rw [HR.out.1, ← HZ.out.2.2.2.2.2] at hm
    rw [HR.out.1, HR.out.2, hm]
    exact bodyPost_ret (v := .tuple #[.agg #[.int .i64 e0.index, .int .i64 e0.term, .int .i64 e0.kind, .slice A2 m0 c2], .int .i64 0]) (by simp [results, Tryz.results36, go_sem, z0c, z1c, z2c, z3c]) rfl ⟨A2, c2, rfl, HX.out.2.2.2.2.below hbG, hbF⟩

end Go.Proofs.YtfblgkcipnkhaaaGreatDoor.pk

/-
  The document's own words of a message: may it be.
-/
namespace Go.Proofs.YtfblgkcipnkhaaaGreatDoor.pk
open Go Go.RowKit
set_option maxRecDepth 100000

theorem cells12 {w : World} {b t : Nat} {v0 v1 v2 v3 v4 v5 v6 v7 v8 v9 v10 v11 : Value} (h : w.heap[b]? = some (.cells #[v0, v1, v2, v3, v4, v5, v6, v7, v8, v9, v10, v11] t (0, 0))) : w.cell? ⟨b, 0, none⟩ = some v0 ∧ w.cell? ⟨b, 1, none⟩ = some v1 ∧ w.cell? ⟨b, 2, none⟩ = some v2 ∧ w.cell? ⟨b, 3, none⟩ = some v3 ∧ w.cell? ⟨b, 4, none⟩ = some v4 ∧ w.cell? ⟨b, 5, none⟩ = some v5 ∧ w.cell? ⟨b, 6, none⟩ = some v6 ∧ w.cell? ⟨b, 7, none⟩ = some v7 ∧ w.cell? ⟨b, 8, none⟩ = some v8 ∧ w.cell? ⟨b, 9, none⟩ = some v9 ∧ w.cell? ⟨b, 10, none⟩ = some v10 ∧ w.cell? ⟨b, 11, none⟩ = some v11 :=
  ⟨by rw [cell_of_row w b 0 _ _ _ h]; rfl, by rw [cell_of_row w b 1 _ _ _ h]; rfl, by rw [cell_of_row w b 2 _ _ _ h]; rfl, by rw [cell_of_row w b 3 _ _ _ h]; rfl, by rw [cell_of_row w b 4 _ _ _ h]; rfl, by rw [cell_of_row w b 5 _ _ _ h]; rfl, by rw [cell_of_row w b 6 _ _ _ h]; rfl, by rw [cell_of_row w b 7 _ _ _ h]; rfl, by rw [cell_of_row w b 8 _ _ _ h]; rfl, by rw [cell_of_row w b 9 _ _ _ h]; rfl, by rw [cell_of_row w b 10 _ _ _ h]; rfl, by rw [cell_of_row w b 11 _ _ _ h]; rfl⟩

theorem in_any (n lo hi : Int) (w : World) (b : Bool) (hb : b = rg n lo hi) : Calls Tryz.prog 41 #[.int .i64 n, .int .i64 lo, .int .i64 hi] w fun y w' => y = .returned (.bool b) ∧ w = w' := by
  have HB := Lib.hid hb
  clear hb
  have hc : ¬ lo ≤ n ∨ (lo ≤ n ∧ ¬ n ≤ hi) ∨ (lo ≤ n ∧ n ≤ hi) := by omega
  rcases hc with h1 | ⟨h1, h2⟩ | ⟨h1, h2⟩
  all_goals
    go_enter Tryz.func41, Tryz.ntmps41
    go_wp2_with fail
    go_ret
    exact ⟨ret_bool (by rw [HB.out]; unfold rg; first | exact (decide_eq_true (by omega)).symm | exact (decide_eq_false (by omega)).symm), rfl⟩

theorem rg_false {n lo hi : Int} : rg n lo hi = false ↔ ¬ (lo ≤ n ∧ n ≤ hi) := by unfold rg; exact decide_eq_false_iff_not
theorem fitM_eq (e : En) : fitM e = (rg e.index 1 1099511627776 && rg e.term 1 1099511627776 && rg e.kind 0 2 && decide (e.data.length ≤ 4096)) := by
  rw [Bool.eq_iff_iff, Bool.and_eq_true, Bool.and_eq_true, Bool.and_eq_true, fitM_iff, rg_iff, rg_iff, rg_iff, decide_eq_true_iff]
  constructor <;> (intro h; omega)

/-- What a message's call is given. -/
structure InM (m : Ms) (Ad : Option Addr) (nd cd : Nat) (Ae : Option Addr) (ne ce : Nat) (w : World) : Prop where
  data : Bys w (.slice Ad nd cd) m.data
  ents : Ents w (.slice Ae ne ce) m.ents
  i0 : inI m.kind ∧ inI m.frm ∧ inI m.to ∧ inI m.term ∧ inI m.index ∧ inI m.logTerm ∧ inI m.commit ∧ inI m.round ∧ inI m.off
theorem InM.below {m : Ms} {Ad : Option Addr} {nd cd : Nat} {Ae : Option Addr} {ne ce : Nat} {w w' : World} (h : InM m Ad nd cd Ae ne ce w) (hb : Below w.heap.size w w') : InM m Ad nd cd Ae ne ce w' := ⟨h.data.below hb, h.ents.below hb, h.i0⟩

set_option maxHeartbeats 8000000 in
theorem May_no1 (m : Ms) (Ad : Option Addr) (nd cd : Nat) (Ae : Option Addr) (ne ce : Nat) (w : World) (hm : mayM1 m = false) :
    Calls Tryz.prog 15 #[.agg #[.int .i64 m.kind, .int .i64 m.frm, .int .i64 m.to, .int .i64 m.term, .int .i64 m.index, .int .i64 m.logTerm, .int .i64 m.commit, .int .i64 m.round, .bool m.ok, .int .i64 m.off, .slice Ad nd cd, .slice Ae ne ce]] w fun y w' => y = .returned (.bool false) ∧ Below w.heap.size w w' := by
  obtain ⟨W1, g, hW1, hg, hb1, hq, hsz⟩ := one_box w (.cells #[.int .i64 m.kind, .int .i64 m.frm, .int .i64 m.to, .int .i64 m.term, .int .i64 m.index, .int .i64 m.logTerm, .int .i64 m.commit, .int .i64 m.round, .bool m.ok, .int .i64 m.off, .slice Ad nd cd, .slice Ae ne ce] 25)
  have HW := Lib.hid (And.intro hW1 hg)
  have HE := Lib.hid hb1
  obtain ⟨z0, z1, z2, z3, z4, z5, z6, z7, z8, z9, z10, z11⟩ := cells12 hq
  have C0 := Lib.hid fun n lo hi => in_any n lo hi W1 _ rfl
  have hcase : (rg m.kind 1 6 = false) ∨ (rg m.kind 1 6 = true ∧ rg m.frm 1 64 = false) ∨ (rg m.kind 1 6 = true ∧ rg m.frm 1 64 = true ∧ rg m.to 1 64 = false) ∨ (rg m.kind 1 6 = true ∧ rg m.frm 1 64 = true ∧ rg m.to 1 64 = true ∧ (m.frm == m.to) = true) ∨
      (rg m.kind 1 6 = true ∧ rg m.frm 1 64 = true ∧ rg m.to 1 64 = true ∧ (m.frm == m.to) = false ∧ rg m.term 1 1099511627776 = false) := by
    unfold mayM1 at hm
    cases a1 : rg m.kind 1 6 with
    | false => exact Or.inl rfl
    | true =>
      cases a2 : rg m.frm 1 64 with
      | false => exact Or.inr (Or.inl ⟨rfl, rfl⟩)
      | true =>
        cases a3 : rg m.to 1 64 with
        | false => exact Or.inr (Or.inr (Or.inl ⟨rfl, rfl, rfl⟩))
        | true =>
          by_cases a4 : m.frm = m.to
          · exact Or.inr (Or.inr (Or.inr (Or.inl ⟨rfl, rfl, rfl, beq_iff_eq.2 a4⟩)))
          · rw [a1, a2, a3, decide_eq_true a4] at hm
            exact Or.inr (Or.inr (Or.inr (Or.inr ⟨rfl, rfl, rfl, beq_eq_false_iff_ne.2 a4, by simpa using hm⟩)))
  clear hW1 hg hb1 hq hsz hm
  rcases hcase with h1 | ⟨h1, h2⟩ | ⟨h1, h2, h3⟩ | ⟨h1, h2, h3, h4⟩ | ⟨h1, h2, h3, h4, h5⟩
  all_goals
    go_enter Tryz.func15, Tryz.ntmps15
    go_upto_region 1 with fail
    rw [← HW.out.1, ← HW.out.2]
    go_wp2_with (go_at_call 41; go_must (refine (C0.out _ _ _).mono ?_; rintro y w1 ⟨rfl, rfl⟩))
    go_ret
    exact ⟨rfl, HE.out⟩


set_option maxHeartbeats 8000000 in
theorem May_no2 (m : Ms) (Ad : Option Addr) (nd cd : Nat) (Ae : Option Addr) (ne ce : Nat) (w : World) (h : InM m Ad nd cd Ae ne ce w) (hm1 : mayM1 m = true) (hm : mayM2 m = false) :
    Calls Tryz.prog 15 #[.agg #[.int .i64 m.kind, .int .i64 m.frm, .int .i64 m.to, .int .i64 m.term, .int .i64 m.index, .int .i64 m.logTerm, .int .i64 m.commit, .int .i64 m.round, .bool m.ok, .int .i64 m.off, .slice Ad nd cd, .slice Ae ne ce]] w fun y w' => y = .returned (.bool false) ∧ Below w.heap.size w w' := by
  have hnd := h.data.len_
  obtain ⟨hne, hne1, hne2⟩ := h.ents.len_
  have in1 : (nd : Int) ≤ 9223372036854775807 := by obtain ⟨A', c', hv, h1, h2⟩ := h.data.form; injection hv with _ e2 e3; omega
  have in2 : (ne : Int) ≤ 9223372036854775807 := by omega
  obtain ⟨W1, g, hW1, hg, hb1, hq, hsz⟩ := one_box w (.cells #[.int .i64 m.kind, .int .i64 m.frm, .int .i64 m.to, .int .i64 m.term, .int .i64 m.index, .int .i64 m.logTerm, .int .i64 m.commit, .int .i64 m.round, .bool m.ok, .int .i64 m.off, .slice Ad nd cd, .slice Ae ne ce] 25)
  have HW := Lib.hid (And.intro hW1 hg)
  have HE := Lib.hid hb1
  obtain ⟨z0, z1, z2, z3, z4, z5, z6, z7, z8, z9, z10, z11⟩ := cells12 hq
  have C0 := Lib.hid fun n lo hi => in_any n lo hi W1 _ rfl
  unfold mayM1 at hm1
  simp only [Bool.and_eq_true, decide_eq_true_eq] at hm1
  obtain ⟨⟨⟨⟨g1, g2⟩, g3⟩, g4⟩, g5⟩ := hm1
  have g4 := beq_eq_false_iff_ne.2 g4
  have hcase : (rg m.index 0 1099511627776 = false) ∨ (rg m.index 0 1099511627776 = true ∧ rg m.logTerm 0 1099511627776 = false) ∨ (rg m.index 0 1099511627776 = true ∧ rg m.logTerm 0 1099511627776 = true ∧ rg m.commit 0 1099511627776 = false) ∨ (rg m.index 0 1099511627776 = true ∧ rg m.logTerm 0 1099511627776 = true ∧ rg m.commit 0 1099511627776 = true ∧ rg m.round 0 1099511627776 = false) ∨
      (rg m.index 0 1099511627776 = true ∧ rg m.logTerm 0 1099511627776 = true ∧ rg m.commit 0 1099511627776 = true ∧ rg m.round 0 1099511627776 = true ∧ rg m.off 0 1099511627776 = false) ∨
      (rg m.index 0 1099511627776 = true ∧ rg m.logTerm 0 1099511627776 = true ∧ rg m.commit 0 1099511627776 = true ∧ rg m.round 0 1099511627776 = true ∧ rg m.off 0 1099511627776 = true ∧ (4096 : Int) < (nd : Int)) ∨
      (rg m.index 0 1099511627776 = true ∧ rg m.logTerm 0 1099511627776 = true ∧ rg m.commit 0 1099511627776 = true ∧ rg m.round 0 1099511627776 = true ∧ rg m.off 0 1099511627776 = true ∧ ¬ (4096 : Int) < (nd : Int) ∧ (64 : Int) < (ne : Int)) := by
    unfold mayM2 at hm
    cases a1 : rg m.index 0 1099511627776 with
    | false => exact Or.inl rfl
    | true =>
      cases a2 : rg m.logTerm 0 1099511627776 with
      | false => exact Or.inr (Or.inl ⟨rfl, rfl⟩)
      | true =>
        cases a3 : rg m.commit 0 1099511627776 with
        | false => exact Or.inr (Or.inr (Or.inl ⟨rfl, rfl, rfl⟩))
        | true =>
          cases a4 : rg m.round 0 1099511627776 with
          | false => exact Or.inr (Or.inr (Or.inr (Or.inl ⟨rfl, rfl, rfl, rfl⟩)))
          | true =>
            cases a5 : rg m.off 0 1099511627776 with
            | false => exact Or.inr (Or.inr (Or.inr (Or.inr (Or.inl ⟨rfl, rfl, rfl, rfl, rfl⟩))))
            | true =>
              by_cases a6 : 4096 < nd
              · exact Or.inr (Or.inr (Or.inr (Or.inr (Or.inr (Or.inl ⟨rfl, rfl, rfl, rfl, rfl, by omega⟩)))))
              · by_cases a7 : 64 < ne
                · exact Or.inr (Or.inr (Or.inr (Or.inr (Or.inr (Or.inr ⟨rfl, rfl, rfl, rfl, rfl, by omega, by omega⟩)))))
                · rw [a1, a2, a3, a4, a5, decide_eq_true (by omega), decide_eq_true (by omega)] at hm
                  cases hm
  clear hW1 hg hb1 hq hsz hm h hnd hne hne1 hne2
  rcases hcase with h1 | ⟨h1, h2⟩ | ⟨h1, h2, h3⟩ | ⟨h1, h2, h3, h4⟩ | ⟨h1, h2, h3, h4, h5⟩ | ⟨h1, h2, h3, h4, h5, h6⟩ | ⟨h1, h2, h3, h4, h5, h6, h7⟩
  all_goals
    go_enter Tryz.func15, Tryz.ntmps15
    go_upto_region 1 with fail
    rw [← HW.out.1, ← HW.out.2]
    go_wp2_with (go_at_call 41; go_must (refine (C0.out _ _ _).mono ?_; rintro y w1 ⟨rfl, rfl⟩))
    go_ret
    exact ⟨rfl, HE.out⟩

set_option maxHeartbeats 8000000 in
theorem May_yes (m : Ms) (Ad : Option Addr) (nd cd : Nat) (Ae : Option Addr) (ne ce : Nat) (w : World) (h : InM m Ad nd cd Ae ne ce w) (hm1 : mayM1 m = true) (hm : mayM2 m = true) (b : Bool) (hb : b = m.ents.all fitM) :
    Calls Tryz.prog 15 #[.agg #[.int .i64 m.kind, .int .i64 m.frm, .int .i64 m.to, .int .i64 m.term, .int .i64 m.index, .int .i64 m.logTerm, .int .i64 m.commit, .int .i64 m.round, .bool m.ok, .int .i64 m.off, .slice Ad nd cd, .slice Ae ne ce]] w fun y w' => y = .returned (.bool b) ∧ Below w.heap.size w w' := by
  have hnd := h.data.len_
  obtain ⟨hne, hne1, hne2⟩ := h.ents.len_
  have in1 : (nd : Int) ≤ 9223372036854775807 := by obtain ⟨A', c', hv, h1, h2⟩ := h.data.form; injection hv with _ e2 e3; omega
  have in2 : (ne : Int) ≤ 9223372036854775807 := by omega
  obtain ⟨W1, g, hW1, hg, hb1, hq, hsz⟩ := one_box w (.cells #[.int .i64 m.kind, .int .i64 m.frm, .int .i64 m.to, .int .i64 m.term, .int .i64 m.index, .int .i64 m.logTerm, .int .i64 m.commit, .int .i64 m.round, .bool m.ok, .int .i64 m.off, .slice Ad nd cd, .slice Ae ne ce] 25)
  have HW := Lib.hid (And.intro hW1 hg)
  have HH := Lib.hid (And.intro hb1 (And.intro hq (And.intro (h.ents.below hb1) (And.intro hne hb))))
  obtain ⟨z0, z1, z2, z3, z4, z5, z6, z7, z8, z9, z10, z11⟩ := cells12 hq
  have C0 := Lib.hid fun n lo hi W => in_any n lo hi W _ rfl
  unfold mayM1 at hm1
  simp only [Bool.and_eq_true, decide_eq_true_eq] at hm1
  obtain ⟨⟨⟨⟨g1, g2⟩, g3⟩, g4⟩, g5⟩ := hm1
  have g4 := beq_eq_false_iff_ne.2 g4
  unfold mayM2 at hm
  simp only [Bool.and_eq_true, decide_eq_true_eq] at hm
  obtain ⟨⟨⟨⟨⟨⟨h1, h2⟩, h3⟩, h4⟩, h5⟩, h6⟩, h7⟩ := hm
  have h6 : ¬ (4096 : Int) < (nd : Int) := by omega
  have h7 : ¬ (64 : Int) < (ne : Int) := by omega
  clear hW1 hg hb1 hq hsz h hnd hne hne1 hne2 hb
  go_enter Tryz.func15, Tryz.ntmps15
  go_upto_region 1 with fail
  rw [← HW.out.1, ← HW.out.2]
  go_wp2_with (go_at_call 41; go_must (refine (C0.out _ _ _ _).mono ?_; rintro y w1 ⟨rfl, rfl⟩))
  go_loopw [3] (fun ii wr => ∃ j : Nat, j ≤ ne ∧ ii = .int .i64 (j : Int) ∧ Hid (b = (m.ents.drop j).all fitM) ∧ Below W1.heap.size W1 wr) (fun ii _ => ne - (intOf ii).toNat)
  case atStart => exact ⟨0, Nat.zero_le _, rfl, Lib.hid (by rw [List.drop_zero]; exact HH.out.2.2.2.2), Below.refl _ _⟩
  case round =>
    obtain ⟨j, hj, rfl, HB, hbw⟩ := hrel
    obtain ⟨z0, z1, z2, z3, z4, z5, z6, z7, z8, z9, z10, z11⟩ := cells12 ((hbw.block g (obj_lt HH.out.2.1)).trans HH.out.2.1)
    have HBW := Lib.hid hbw
    by_cases hlt : j < ne
    · have ii : (j : Int) < (ne : Int) := by omega
      have ii0 : (0 : Int) ≤ (j : Int) := by omega
      have hjl : j < m.ents.length := by have := HH.out.2.2.2.1; omega
      obtain ⟨bk, off, Ax, cx, rfl, hbb, hok, q0, q1, q2, q3, -⟩ := HH.out.2.2.1.at_ j hjl
      have hbd : (m.ents.drop j).all fitM = (fitM m.ents[j] && (m.ents.drop (j + 1)).all fitM) := by rw [List.drop_eq_getElem_cons hjl, List.all_cons]
      obtain ⟨e, he⟩ : ∃ e, e = m.ents[j] := ⟨_, rfl⟩
      rw [← he] at q0 q1 q2 q3 hbd hok
      rw [← HB.out, fitM_eq] at hbd
      obtain ⟨n, hn⟩ : ∃ n, n = e.data.length := ⟨_, rfl⟩
      rw [← hn] at q3 hbd
      have p0 := (hbw.cell (p := ⟨bk, off + j * 4, none⟩) hbb).trans q0
      have p1 := (hbw.cell (p := ⟨bk, off + j * 4 + 1, none⟩) hbb).trans q1
      have p2 := (hbw.cell (p := ⟨bk, off + j * 4 + 2, none⟩) hbb).trans q2
      have p3 := (hbw.cell (p := ⟨bk, off + j * 4 + 3, none⟩) hbb).trans q3
      have hsl : n ≤ 9223372036854775807 := by
        have := HH.out.2.2.1.at_ j hjl
        obtain ⟨_, _, Ay, cy, _, _, _, _, _, _, _, hS⟩ := this
        have := hS.form
        obtain ⟨A', c', hv, h1, h2⟩ := this
        injection hv with _ e2 e3
        rw [hn, he]
        omega
      have in3 : (n : Int) ≤ 9223372036854775807 := by omega
      have HBF := Lib.hid (hbw.trans ((below_alloc wr (.cells #[.int .i64 e.index, .int .i64 e.term, .int .i64 e.kind, .slice Ax n cx] 71)).mono hbw.size))
      have hcase : (rg e.index 1 1099511627776 = false ∧ b = false) ∨ (rg e.index 1 1099511627776 = true ∧ rg e.term 1 1099511627776 = false ∧ b = false) ∨ (rg e.index 1 1099511627776 = true ∧ rg e.term 1 1099511627776 = true ∧ rg e.kind 0 2 = false ∧ b = false) ∨ (rg e.index 1 1099511627776 = true ∧ rg e.term 1 1099511627776 = true ∧ rg e.kind 0 2 = true ∧ (4096 : Int) < (n : Int) ∧ b = false) ∨
          (rg e.index 1 1099511627776 = true ∧ rg e.term 1 1099511627776 = true ∧ rg e.kind 0 2 = true ∧ ¬ (4096 : Int) < (n : Int) ∧ b = (m.ents.drop (j + 1)).all fitM) := by
        cases a1 : rg e.index 1 1099511627776 with
        | false => rw [a1] at hbd; exact Or.inl ⟨rfl, by simpa using hbd⟩
        | true =>
          cases a2 : rg e.term 1 1099511627776 with
          | false => rw [a1, a2] at hbd; exact Or.inr (Or.inl ⟨rfl, rfl, by simpa using hbd⟩)
          | true =>
            cases a3 : rg e.kind 0 2 with
            | false => rw [a1, a2, a3] at hbd; exact Or.inr (Or.inr (Or.inl ⟨rfl, rfl, rfl, by simpa using hbd⟩))
            | true =>
              by_cases a4 : n ≤ 4096
              · rw [a1, a2, a3, decide_eq_true a4] at hbd; exact Or.inr (Or.inr (Or.inr (Or.inr ⟨rfl, rfl, rfl, by omega, by simpa using hbd⟩)))
              · rw [a1, a2, a3, decide_eq_false a4] at hbd; exact Or.inr (Or.inr (Or.inr (Or.inl ⟨rfl, rfl, rfl, by omega, by simpa using hbd⟩)))
      clear hbb q0 q1 q2 q3 hbd he hbw hjl hok hn hsl
      rcases hcase with ⟨c1, c2⟩ | ⟨c1, c2, c3⟩ | ⟨c1, c2, c3, c4⟩ | ⟨c1, c2, c3, c4, c5⟩ | ⟨c1, c2, c3, c4, c5⟩
      case inr.inr.inr.inr =>
        have HR := Lib.hid c5
        clear c5
        go_wp2_with (go_at_call 41; go_must (refine (C0.out _ _ _ _).mono ?_; rintro y w1 ⟨rfl, rfl⟩))
        go_roundw
        case rel => exact ⟨j + 1, by omega, by go_num, HR, HBF.out⟩
        case measure => simp [intOf]; omega
      case inl =>
        have HR := Lib.hid c2
        clear c2
        go_wp2_with (go_at_call 41; go_must (refine (C0.out _ _ _ _).mono ?_; rintro y w1 ⟨rfl, rfl⟩))
        go_ret
        exact ⟨ret_bool HR.out.symm, HH.out.1.trans (HBF.out.mono HH.out.1.size)⟩
      case inr.inl =>
        have HR := Lib.hid c3
        clear c3
        go_wp2_with (go_at_call 41; go_must (refine (C0.out _ _ _ _).mono ?_; rintro y w1 ⟨rfl, rfl⟩))
        go_ret
        exact ⟨ret_bool HR.out.symm, HH.out.1.trans (HBF.out.mono HH.out.1.size)⟩
      case inr.inr.inl =>
        have HR := Lib.hid c4
        clear c4
        go_wp2_with (go_at_call 41; go_must (refine (C0.out _ _ _ _).mono ?_; rintro y w1 ⟨rfl, rfl⟩))
        go_ret
        exact ⟨ret_bool HR.out.symm, HH.out.1.trans (HBF.out.mono HH.out.1.size)⟩
      case inr.inr.inr.inl =>
        have HR := Lib.hid c5
        clear c5
        go_wp2_with (go_at_call 41; go_must (refine (C0.out _ _ _ _).mono ?_; rintro y w1 ⟨rfl, rfl⟩))
        go_ret
        exact ⟨ret_bool HR.out.symm, HH.out.1.trans (HBF.out.mono HH.out.1.size)⟩
    · obtain rfl : j = ne := by omega
      have ii : ¬ (j : Int) < (j : Int) := by omega
      have hbt : b = true := by rw [HB.out, List.drop_eq_nil_of_le (by have := HH.out.2.2.2.1; omega)]; rfl
      have HR := Lib.hid hbt
      clear hbt
      go_wp2_with fail
      go_ret
      exact ⟨ret_bool HR.out.symm, HH.out.1.trans (HBW.out.mono HH.out.1.size)⟩

theorem May_m (m : Ms) (Ad : Option Addr) (nd cd : Nat) (Ae : Option Addr) (ne ce : Nat) (w : World) (h : InM m Ad nd cd Ae ne ce w) (b : Bool) (hb : b = mayM m) :
    Calls Tryz.prog 15 #[.agg #[.int .i64 m.kind, .int .i64 m.frm, .int .i64 m.to, .int .i64 m.term, .int .i64 m.index, .int .i64 m.logTerm, .int .i64 m.commit, .int .i64 m.round, .bool m.ok, .int .i64 m.off, .slice Ad nd cd, .slice Ae ne ce]] w fun y w' => y = .returned (.bool b) ∧ Below w.heap.size w w' := by
  unfold mayM at hb
  cases h1 : mayM1 m with
  | false => rw [h1, Bool.false_and, Bool.false_and] at hb; subst hb; exact May_no1 m Ad nd cd Ae ne ce w h1
  | true =>
    cases h2 : mayM2 m with
    | false => rw [h1, h2, Bool.true_and, Bool.false_and] at hb; subst hb; exact May_no2 m Ad nd cd Ae ne ce w h h1 h2
    | true => rw [h1, h2, Bool.true_and, Bool.true_and] at hb; exact May_yes m Ad nd cd Ae ne ce w h h1 h2 b hb

end Go.Proofs.YtfblgkcipnkhaaaGreatDoor.pk

/-
  The law's own copy of a message; how long one is.
-/
namespace Go.Proofs.YtfblgkcipnkhaaaGreatDoor.pk
open Go Go.RowKit
set_option maxRecDepth 100000

theorem put12 {w : World} {b t : Nat} {u0 u1 u2 u3 u4 u5 u6 u7 u8 u9 u10 u11 : Value} (h : w.heap[b]? = some (.cells #[u0, u1, u2, u3, u4, u5, u6, u7, u8, u9, u10, u11] t (0, 0))) (v0 v1 v2 v3 v4 v5 v6 v7 v8 v9 v10 v11 : Value) :
    ∃ F, F = ((((((((((((w.setCell ⟨b, 0, none⟩ v0).setCell ⟨b, 1, none⟩ v1).setCell ⟨b, 2, none⟩ v2).setCell ⟨b, 3, none⟩ v3).setCell ⟨b, 4, none⟩ v4).setCell ⟨b, 5, none⟩ v5).setCell ⟨b, 6, none⟩ v6).setCell ⟨b, 7, none⟩ v7).setCell ⟨b, 8, none⟩ v8).setCell ⟨b, 9, none⟩ v9).setCell ⟨b, 10, none⟩ v10).setCell ⟨b, 11, none⟩ v11) ∧ F.heap[b]? = some (.cells #[v0, v1, v2, v3, v4, v5, v6, v7, v8, v9, v10, v11] t (0, 0)) ∧ (∀ Q, Q ≤ b → Below Q w F) ∧ (∀ k, k ≠ b → F.heap[k]? = w.heap[k]?) ∧ F.heap.size = w.heap.size := by
  refine ⟨_, rfl, by simp [World.setCell, Array.getElem?_modify, h], fun Q hQ => ?_, fun k hk => ?_, by simp only [World.size_setCell]⟩
  · exact ((((((((((((Below.refl Q w).setCell (show Q ≤ _ from hQ) _).setCell (show Q ≤ _ from hQ) _).setCell (show Q ≤ _ from hQ) _).setCell (show Q ≤ _ from hQ) _).setCell (show Q ≤ _ from hQ) _).setCell (show Q ≤ _ from hQ) _).setCell (show Q ≤ _ from hQ) _).setCell (show Q ≤ _ from hQ) _).setCell (show Q ≤ _ from hQ) _).setCell (show Q ≤ _ from hQ) _).setCell (show Q ≤ _ from hQ) _).setCell (show Q ≤ _ from hQ) _
  · rw [Below.heap_setCell _ _ _ _ hk, Below.heap_setCell _ _ _ _ hk, Below.heap_setCell _ _ _ _ hk, Below.heap_setCell _ _ _ _ hk, Below.heap_setCell _ _ _ _ hk, Below.heap_setCell _ _ _ _ hk, Below.heap_setCell _ _ _ _ hk, Below.heap_setCell _ _ _ _ hk, Below.heap_setCell _ _ _ _ hk, Below.heap_setCell _ _ _ _ hk, Below.heap_setCell _ _ _ _ hk, Below.heap_setCell _ _ _ _ hk]

set_option maxHeartbeats 16000000 in
theorem giveMsg_any (m : Ms) (Ad : Option Addr) (nd cd : Nat) (Ae : Option Addr) (ne ce : Nat) (w : World) (h : InM m Ad nd cd Ae ne ce w) (hsd : nd ≤ 1000000000) (hse : SmallE 1000000 100000000 m.ents) :
    Calls Tryz.prog 14 #[.agg #[.int .i64 m.kind, .int .i64 m.frm, .int .i64 m.to, .int .i64 m.term, .int .i64 m.index, .int .i64 m.logTerm, .int .i64 m.commit, .int .i64 m.round, .bool m.ok, .int .i64 m.off, .slice Ad nd cd, .slice Ae ne ce]] w fun y w' => ∃ A1 c1 A2 c2, y = .returned (.agg #[.int .i64 m.kind, .int .i64 m.frm, .int .i64 m.to, .int .i64 m.term, .int .i64 m.index, .int .i64 m.logTerm, .int .i64 m.commit, .int .i64 m.round, .bool m.ok, .int .i64 m.off, .slice A1 nd c1, .slice A2 ne c2]) ∧ InM m A1 nd c1 A2 ne c2 w' ∧ Below w.heap.size w w' := by
  have hnd := h.data.len_
  obtain ⟨W1, g, g2, hW1, hg, hg2, hb1, hq, hq2, hsz⟩ := two_box w (.cells #[.int .i64 m.kind, .int .i64 m.frm, .int .i64 m.to, .int .i64 m.term, .int .i64 m.index, .int .i64 m.logTerm, .int .i64 m.commit, .int .i64 m.round, .bool m.ok, .int .i64 m.off, .slice Ad nd cd, .slice Ae ne ce] 25) (.cells #[.int .i64 0, .int .i64 0, .int .i64 0, .int .i64 0, .int .i64 0, .int .i64 0, .int .i64 0, .int .i64 0, .bool false, .int .i64 0, .slice none 0 0, .slice none 0 0] 30)
  have HW := Lib.hid (And.intro hW1 (And.intro hg hg2))
  have HE := Lib.hid (And.intro hb1 (And.intro hq (And.intro hq2 (And.intro (show w.heap.size ≤ g2 by omega) hsz))))
  have HN := Lib.hid (And.intro hsd (And.intro hnd (And.intro hse h)))
  have hres : Tryz.f14.results = #[.cell 2 30] := by kernel_rfl
  clear h hnd hsd hse hW1 hb1 hq hq2 hg hg2 hsz
  go_enter Tryz.func14, Tryz.ntmps14
  go_upto_region 1 with fail
  rw [← HW.out.1, ← HW.out.2.1, ← HW.out.2.2]
  go_upto_region 2 with fail
  have hd0 : Below g2 W1 W1.drew := (Below.refl _ _).drew
  have hd1 : Below W1.heap.size W1 W1.drew := (Below.refl _ _).drew
  have hlt : g < g2 := by have := HW.out.2.2; omega
  have HLT := Lib.hid hlt
  refine wp_region_held_drew (S := fun W => Below g2 W1 W) (by kernel_rfl) hd0 (fun hHeld => ?_)
  clear hd0
  refine wpAnyH_take (i := 0) (oi := { dst := Option.some 4, op := Op.fieldAddr 25 (Operand.tmp 1) 0, type := 0, pos := "law.go:53", after := #[], guard := Option.none }) (v := .pointer (some ⟨g, 0, none⟩)) rfl (by kernel_rfl) (by kernel_rfl) (by kernel_rfl) (fun _ _ _ h => h) (Or.inl ⟨by rfl, ?_⟩) hHeld ?_
  · intro W hSw
    obtain ⟨z0, z1, z2, z3, z4, z5, z6, z7, z8, z9, z10, z11⟩ := cells12 ((hSw.block g HLT.out).trans HE.out.2.1)
    go_simp
  simp only [Act.put, List.setIfInBounds_toArray, List.set_cons_zero, List.set_cons_succ]
  refine wpAnyH_take (i := 1) (oi := { dst := Option.some 5, op := Op.load 3 (Operand.tmp 4), type := 3, pos := "law.go:53", after := #[{ on := 0, ground := Ground.data }], guard := Option.none }) (v := .int .i64 m.kind) rfl (by kernel_rfl) (by kernel_rfl) (by kernel_rfl) (fun _ _ _ h => h) (Or.inl ⟨by rfl, ?_⟩) hHeld ?_
  · intro W hSw
    obtain ⟨z0, z1, z2, z3, z4, z5, z6, z7, z8, z9, z10, z11⟩ := cells12 ((hSw.block g HLT.out).trans HE.out.2.1)
    go_simp
  simp only [Act.put, List.setIfInBounds_toArray, List.set_cons_zero, List.set_cons_succ]
  refine wpAnyH_take (i := 2) (oi := { dst := Option.some 6, op := Op.fieldAddr 25 (Operand.tmp 1) 1, type := 0, pos := "law.go:53", after := #[], guard := Option.none }) (v := .pointer (some ⟨g, 1, none⟩)) rfl (by kernel_rfl) (by kernel_rfl) (by kernel_rfl) (fun _ _ _ h => h) (Or.inl ⟨by rfl, ?_⟩) hHeld ?_
  · intro W hSw
    obtain ⟨z0, z1, z2, z3, z4, z5, z6, z7, z8, z9, z10, z11⟩ := cells12 ((hSw.block g HLT.out).trans HE.out.2.1)
    go_simp
  simp only [Act.put, List.setIfInBounds_toArray, List.set_cons_zero, List.set_cons_succ]
  refine wpAnyH_take (i := 3) (oi := { dst := Option.some 7, op := Op.load 3 (Operand.tmp 6), type := 3, pos := "law.go:53", after := #[{ on := 2, ground := Ground.data }], guard := Option.none }) (v := .int .i64 m.frm) rfl (by kernel_rfl) (by kernel_rfl) (by kernel_rfl) (fun _ _ _ h => h) (Or.inl ⟨by rfl, ?_⟩) hHeld ?_
  · intro W hSw
    obtain ⟨z0, z1, z2, z3, z4, z5, z6, z7, z8, z9, z10, z11⟩ := cells12 ((hSw.block g HLT.out).trans HE.out.2.1)
    go_simp
  simp only [Act.put, List.setIfInBounds_toArray, List.set_cons_zero, List.set_cons_succ]
  refine wpAnyH_take (i := 4) (oi := { dst := Option.some 8, op := Op.fieldAddr 25 (Operand.tmp 1) 2, type := 0, pos := "law.go:53", after := #[], guard := Option.none }) (v := .pointer (some ⟨g, 2, none⟩)) rfl (by kernel_rfl) (by kernel_rfl) (by kernel_rfl) (fun _ _ _ h => h) (Or.inl ⟨by rfl, ?_⟩) hHeld ?_
  · intro W hSw
    obtain ⟨z0, z1, z2, z3, z4, z5, z6, z7, z8, z9, z10, z11⟩ := cells12 ((hSw.block g HLT.out).trans HE.out.2.1)
    go_simp
  simp only [Act.put, List.setIfInBounds_toArray, List.set_cons_zero, List.set_cons_succ]
  refine wpAnyH_take (i := 5) (oi := { dst := Option.some 9, op := Op.load 3 (Operand.tmp 8), type := 3, pos := "law.go:53", after := #[{ on := 4, ground := Ground.data }], guard := Option.none }) (v := .int .i64 m.to) rfl (by kernel_rfl) (by kernel_rfl) (by kernel_rfl) (fun _ _ _ h => h) (Or.inl ⟨by rfl, ?_⟩) hHeld ?_
  · intro W hSw
    obtain ⟨z0, z1, z2, z3, z4, z5, z6, z7, z8, z9, z10, z11⟩ := cells12 ((hSw.block g HLT.out).trans HE.out.2.1)
    go_simp
  simp only [Act.put, List.setIfInBounds_toArray, List.set_cons_zero, List.set_cons_succ]
  refine wpAnyH_take (i := 6) (oi := { dst := Option.some 10, op := Op.fieldAddr 25 (Operand.tmp 1) 3, type := 0, pos := "law.go:53", after := #[], guard := Option.none }) (v := .pointer (some ⟨g, 3, none⟩)) rfl (by kernel_rfl) (by kernel_rfl) (by kernel_rfl) (fun _ _ _ h => h) (Or.inl ⟨by rfl, ?_⟩) hHeld ?_
  · intro W hSw
    obtain ⟨z0, z1, z2, z3, z4, z5, z6, z7, z8, z9, z10, z11⟩ := cells12 ((hSw.block g HLT.out).trans HE.out.2.1)
    go_simp
  simp only [Act.put, List.setIfInBounds_toArray, List.set_cons_zero, List.set_cons_succ]
  refine wpAnyH_take (i := 7) (oi := { dst := Option.some 11, op := Op.load 3 (Operand.tmp 10), type := 3, pos := "law.go:53", after := #[{ on := 6, ground := Ground.data }], guard := Option.none }) (v := .int .i64 m.term) rfl (by kernel_rfl) (by kernel_rfl) (by kernel_rfl) (fun _ _ _ h => h) (Or.inl ⟨by rfl, ?_⟩) hHeld ?_
  · intro W hSw
    obtain ⟨z0, z1, z2, z3, z4, z5, z6, z7, z8, z9, z10, z11⟩ := cells12 ((hSw.block g HLT.out).trans HE.out.2.1)
    go_simp
  simp only [Act.put, List.setIfInBounds_toArray, List.set_cons_zero, List.set_cons_succ]
  refine wpAnyH_take (i := 8) (oi := { dst := Option.some 12, op := Op.fieldAddr 25 (Operand.tmp 1) 4, type := 0, pos := "law.go:53", after := #[], guard := Option.none }) (v := .pointer (some ⟨g, 4, none⟩)) rfl (by kernel_rfl) (by kernel_rfl) (by kernel_rfl) (fun _ _ _ h => h) (Or.inl ⟨by rfl, ?_⟩) hHeld ?_
  · intro W hSw
    obtain ⟨z0, z1, z2, z3, z4, z5, z6, z7, z8, z9, z10, z11⟩ := cells12 ((hSw.block g HLT.out).trans HE.out.2.1)
    go_simp
  simp only [Act.put, List.setIfInBounds_toArray, List.set_cons_zero, List.set_cons_succ]
  refine wpAnyH_take (i := 9) (oi := { dst := Option.some 13, op := Op.load 3 (Operand.tmp 12), type := 3, pos := "law.go:53", after := #[{ on := 8, ground := Ground.data }], guard := Option.none }) (v := .int .i64 m.index) rfl (by kernel_rfl) (by kernel_rfl) (by kernel_rfl) (fun _ _ _ h => h) (Or.inl ⟨by rfl, ?_⟩) hHeld ?_
  · intro W hSw
    obtain ⟨z0, z1, z2, z3, z4, z5, z6, z7, z8, z9, z10, z11⟩ := cells12 ((hSw.block g HLT.out).trans HE.out.2.1)
    go_simp
  simp only [Act.put, List.setIfInBounds_toArray, List.set_cons_zero, List.set_cons_succ]
  refine wpAnyH_take (i := 10) (oi := { dst := Option.some 14, op := Op.fieldAddr 25 (Operand.tmp 1) 5, type := 0, pos := "law.go:53", after := #[], guard := Option.none }) (v := .pointer (some ⟨g, 5, none⟩)) rfl (by kernel_rfl) (by kernel_rfl) (by kernel_rfl) (fun _ _ _ h => h) (Or.inl ⟨by rfl, ?_⟩) hHeld ?_
  · intro W hSw
    obtain ⟨z0, z1, z2, z3, z4, z5, z6, z7, z8, z9, z10, z11⟩ := cells12 ((hSw.block g HLT.out).trans HE.out.2.1)
    go_simp
  simp only [Act.put, List.setIfInBounds_toArray, List.set_cons_zero, List.set_cons_succ]
  refine wpAnyH_take (i := 11) (oi := { dst := Option.some 15, op := Op.load 3 (Operand.tmp 14), type := 3, pos := "law.go:53", after := #[{ on := 10, ground := Ground.data }], guard := Option.none }) (v := .int .i64 m.logTerm) rfl (by kernel_rfl) (by kernel_rfl) (by kernel_rfl) (fun _ _ _ h => h) (Or.inl ⟨by rfl, ?_⟩) hHeld ?_
  · intro W hSw
    obtain ⟨z0, z1, z2, z3, z4, z5, z6, z7, z8, z9, z10, z11⟩ := cells12 ((hSw.block g HLT.out).trans HE.out.2.1)
    go_simp
  simp only [Act.put, List.setIfInBounds_toArray, List.set_cons_zero, List.set_cons_succ]
  refine wpAnyH_take (i := 12) (oi := { dst := Option.some 16, op := Op.fieldAddr 25 (Operand.tmp 1) 6, type := 0, pos := "law.go:53", after := #[], guard := Option.none }) (v := .pointer (some ⟨g, 6, none⟩)) rfl (by kernel_rfl) (by kernel_rfl) (by kernel_rfl) (fun _ _ _ h => h) (Or.inl ⟨by rfl, ?_⟩) hHeld ?_
  · intro W hSw
    obtain ⟨z0, z1, z2, z3, z4, z5, z6, z7, z8, z9, z10, z11⟩ := cells12 ((hSw.block g HLT.out).trans HE.out.2.1)
    go_simp
  simp only [Act.put, List.setIfInBounds_toArray, List.set_cons_zero, List.set_cons_succ]
  refine wpAnyH_take (i := 13) (oi := { dst := Option.some 17, op := Op.load 3 (Operand.tmp 16), type := 3, pos := "law.go:53", after := #[{ on := 12, ground := Ground.data }], guard := Option.none }) (v := .int .i64 m.commit) rfl (by kernel_rfl) (by kernel_rfl) (by kernel_rfl) (fun _ _ _ h => h) (Or.inl ⟨by rfl, ?_⟩) hHeld ?_
  · intro W hSw
    obtain ⟨z0, z1, z2, z3, z4, z5, z6, z7, z8, z9, z10, z11⟩ := cells12 ((hSw.block g HLT.out).trans HE.out.2.1)
    go_simp
  simp only [Act.put, List.setIfInBounds_toArray, List.set_cons_zero, List.set_cons_succ]
  refine wpAnyH_take (i := 14) (oi := { dst := Option.some 18, op := Op.fieldAddr 25 (Operand.tmp 1) 7, type := 0, pos := "law.go:53", after := #[], guard := Option.none }) (v := .pointer (some ⟨g, 7, none⟩)) rfl (by kernel_rfl) (by kernel_rfl) (by kernel_rfl) (fun _ _ _ h => h) (Or.inl ⟨by rfl, ?_⟩) hHeld ?_
  · intro W hSw
    obtain ⟨z0, z1, z2, z3, z4, z5, z6, z7, z8, z9, z10, z11⟩ := cells12 ((hSw.block g HLT.out).trans HE.out.2.1)
    go_simp
  simp only [Act.put, List.setIfInBounds_toArray, List.set_cons_zero, List.set_cons_succ]
  refine wpAnyH_take (i := 15) (oi := { dst := Option.some 19, op := Op.load 3 (Operand.tmp 18), type := 3, pos := "law.go:53", after := #[{ on := 14, ground := Ground.data }], guard := Option.none }) (v := .int .i64 m.round) rfl (by kernel_rfl) (by kernel_rfl) (by kernel_rfl) (fun _ _ _ h => h) (Or.inl ⟨by rfl, ?_⟩) hHeld ?_
  · intro W hSw
    obtain ⟨z0, z1, z2, z3, z4, z5, z6, z7, z8, z9, z10, z11⟩ := cells12 ((hSw.block g HLT.out).trans HE.out.2.1)
    go_simp
  simp only [Act.put, List.setIfInBounds_toArray, List.set_cons_zero, List.set_cons_succ]
  refine wpAnyH_take (i := 16) (oi := { dst := Option.some 20, op := Op.fieldAddr 25 (Operand.tmp 1) 8, type := 0, pos := "law.go:53", after := #[], guard := Option.none }) (v := .pointer (some ⟨g, 8, none⟩)) rfl (by kernel_rfl) (by kernel_rfl) (by kernel_rfl) (fun _ _ _ h => h) (Or.inl ⟨by rfl, ?_⟩) hHeld ?_
  · intro W hSw
    obtain ⟨z0, z1, z2, z3, z4, z5, z6, z7, z8, z9, z10, z11⟩ := cells12 ((hSw.block g HLT.out).trans HE.out.2.1)
    go_simp
  simp only [Act.put, List.setIfInBounds_toArray, List.set_cons_zero, List.set_cons_succ]
  refine wpAnyH_take (i := 17) (oi := { dst := Option.some 21, op := Op.load 4 (Operand.tmp 20), type := 4, pos := "law.go:53", after := #[{ on := 16, ground := Ground.data }], guard := Option.none }) (v := .bool m.ok) rfl (by kernel_rfl) (by kernel_rfl) (by kernel_rfl) (fun _ _ _ h => h) (Or.inl ⟨by rfl, ?_⟩) hHeld ?_
  · intro W hSw
    obtain ⟨z0, z1, z2, z3, z4, z5, z6, z7, z8, z9, z10, z11⟩ := cells12 ((hSw.block g HLT.out).trans HE.out.2.1)
    go_simp
  simp only [Act.put, List.setIfInBounds_toArray, List.set_cons_zero, List.set_cons_succ]
  refine wpAnyH_take (i := 18) (oi := { dst := Option.some 22, op := Op.fieldAddr 25 (Operand.tmp 1) 9, type := 0, pos := "law.go:53", after := #[], guard := Option.none }) (v := .pointer (some ⟨g, 9, none⟩)) rfl (by kernel_rfl) (by kernel_rfl) (by kernel_rfl) (fun _ _ _ h => h) (Or.inl ⟨by rfl, ?_⟩) hHeld ?_
  · intro W hSw
    obtain ⟨z0, z1, z2, z3, z4, z5, z6, z7, z8, z9, z10, z11⟩ := cells12 ((hSw.block g HLT.out).trans HE.out.2.1)
    go_simp
  simp only [Act.put, List.setIfInBounds_toArray, List.set_cons_zero, List.set_cons_succ]
  refine wpAnyH_take (i := 19) (oi := { dst := Option.some 23, op := Op.load 3 (Operand.tmp 22), type := 3, pos := "law.go:53", after := #[{ on := 18, ground := Ground.data }], guard := Option.none }) (v := .int .i64 m.off) rfl (by kernel_rfl) (by kernel_rfl) (by kernel_rfl) (fun _ _ _ h => h) (Or.inl ⟨by rfl, ?_⟩) hHeld ?_
  · intro W hSw
    obtain ⟨z0, z1, z2, z3, z4, z5, z6, z7, z8, z9, z10, z11⟩ := cells12 ((hSw.block g HLT.out).trans HE.out.2.1)
    go_simp
  simp only [Act.put, List.setIfInBounds_toArray, List.set_cons_zero, List.set_cons_succ]
  refine wpAnyH_take (i := 20) (oi := { dst := Option.some 24, op := Op.move (Operand.tmp 3), type := 22, pos := "law.go:53", after := #[], guard := Option.none }) (v := .slice none 0 0) rfl (by kernel_rfl) (by kernel_rfl) (by kernel_rfl) (fun _ _ _ h => h) (Or.inl ⟨by rfl, ?_⟩) hHeld ?_
  · intro W hSw
    obtain ⟨z0, z1, z2, z3, z4, z5, z6, z7, z8, z9, z10, z11⟩ := cells12 ((hSw.block g HLT.out).trans HE.out.2.1)
    go_simp
  simp only [Act.put, List.setIfInBounds_toArray, List.set_cons_zero, List.set_cons_succ]
  refine wpAnyH_take (i := 21) (oi := { dst := Option.some 25, op := Op.fieldAddr 25 (Operand.tmp 1) 10, type := 0, pos := "law.go:53", after := #[], guard := Option.none }) (v := .pointer (some ⟨g, 10, none⟩)) rfl (by kernel_rfl) (by kernel_rfl) (by kernel_rfl) (fun _ _ _ h => h) (Or.inl ⟨by rfl, ?_⟩) hHeld ?_
  · intro W hSw
    obtain ⟨z0, z1, z2, z3, z4, z5, z6, z7, z8, z9, z10, z11⟩ := cells12 ((hSw.block g HLT.out).trans HE.out.2.1)
    go_simp
  simp only [Act.put, List.setIfInBounds_toArray, List.set_cons_zero, List.set_cons_succ]
  refine wpAnyH_take (i := 22) (oi := { dst := Option.some 26, op := Op.load 22 (Operand.tmp 25), type := 22, pos := "law.go:53", after := #[{ on := 21, ground := Ground.data }], guard := Option.none }) (v := .slice Ad nd cd) rfl (by kernel_rfl) (by kernel_rfl) (by kernel_rfl) (fun _ _ _ h => h) (Or.inl ⟨by rfl, ?_⟩) hHeld ?_
  · intro W hSw
    obtain ⟨z0, z1, z2, z3, z4, z5, z6, z7, z8, z9, z10, z11⟩ := cells12 ((hSw.block g HLT.out).trans HE.out.2.1)
    go_simp
  simp only [Act.put, List.setIfInBounds_toArray, List.set_cons_zero, List.set_cons_succ]
  refine wpAnyH_take (i := 24) (oi := { dst := Option.some 28, op := Op.fieldAddr 25 (Operand.tmp 1) 11, type := 0, pos := "law.go:53", after := #[], guard := Option.none }) (v := .pointer (some ⟨g, 11, none⟩)) rfl (by kernel_rfl) (by kernel_rfl) (by kernel_rfl) (fun _ _ _ h => h) (Or.inl ⟨by rfl, ?_⟩) hHeld ?_
  · intro W hSw
    obtain ⟨z0, z1, z2, z3, z4, z5, z6, z7, z8, z9, z10, z11⟩ := cells12 ((hSw.block g HLT.out).trans HE.out.2.1)
    go_simp
  simp only [Act.put, List.setIfInBounds_toArray, List.set_cons_zero, List.set_cons_succ]
  refine wpAnyH_take (i := 25) (oi := { dst := Option.some 29, op := Op.load 23 (Operand.tmp 28), type := 23, pos := "law.go:53", after := #[{ on := 24, ground := Ground.data }], guard := Option.none }) (v := .slice Ae ne ce) rfl (by kernel_rfl) (by kernel_rfl) (by kernel_rfl) (fun _ _ _ h => h) (Or.inl ⟨by rfl, ?_⟩) hHeld ?_
  · intro W hSw
    obtain ⟨z0, z1, z2, z3, z4, z5, z6, z7, z8, z9, z10, z11⟩ := cells12 ((hSw.block g HLT.out).trans HE.out.2.1)
    go_simp
  simp only [Act.put, List.setIfInBounds_toArray, List.set_cons_zero, List.set_cons_succ]
  refine wpAnyH_ready (rs := [23]) (by kernel_rfl) (by simp) ?_
  refine AllReadyH.cons (o := { dst := Option.some 27, op := Op.call { callee := Callee.builtin Builtin.append, args := #[Operand.tmp 24, Operand.tmp 26], argTypes := #[22, 22] }, type := 22, pos := "law.go:53", after := #[{ on := 20, ground := Ground.data }, { on := 22, ground := Ground.data }], guard := Option.none }) rfl (fun K hK => ?_) AllReadyH.nil
  refine step_op' rfl (wp_joinB (w := W1.drew) (xs := []) (World.ownsRow_nil W1.drew W1.heap.size 5 1) (.tmp 24) (.tmp 26) rfl rfl Ad nd cd rfl m.data (HN.out.2.2.2.data.below (HE.out.1.trans (hd1.mono HE.out.1.size))) (by have := HN.out.1; simp; omega) (Nat.le_refl _) ?_)
  intro v1 w1 ho1 hg1
  rw [List.nil_append] at ho1
  have hb1 : Below W1.heap.size W1 w1 := Below.grown hd1 hg1 (Nat.le_refl _) (fun q hq => by cases hq)
  have hI1 : SlT w1 (fun q => W1.heap.size ≤ q ∧ q < w1.heap.size) v1 m.data := SlT.of_own ho1 _ fun q hq => ho1.lt q hq
  obtain ⟨A1, c1, hv, -, -⟩ := (Bys.of_own ho1).form
  rw [← HN.out.2.1] at hv
  subst hv
  have HA := Lib.hid (And.intro hb1 hI1)
  have HGR := Lib.hid hg1
  clear hb1 hI1 ho1 hg1
  refine hK.out _ _ (HA.out.1.mono (by have := HE.out.2.2.2.2; omega)) (fun hHeld2 => ?_)
  clear hK K hHeld
  have hHeld := hHeld2
  clear hHeld2
  simp only [Act.put, List.setIfInBounds_toArray, List.set_cons_zero, List.set_cons_succ]
  refine wpAnyH_ready (rs := [26]) (by kernel_rfl) (by simp) ?_
  refine AllReadyH.cons (o := { dst := Option.some 30, op := Op.call { callee := Callee.value (Operand.func 40), args := #[Operand.tmp 29], argTypes := #[23] }, type := 28, pos := "law.go:53", after := #[{ on := 25, ground := Ground.data }, { on := 23, ground := Ground.chain }], guard := Option.none }) rfl (fun K hK => ?_) AllReadyH.nil
  have HG := Lib.hid (giveEntries_any Ae ne ce m.ents w1 (HN.out.2.2.2.ents.below (HE.out.1.trans (HA.out.1.mono HE.out.1.size))) HN.out.2.2.1)
  go_simp
  refine HG.out.mono ?_
  rintro y w2 ⟨A2, c2, rfl, hi2, hb2⟩
  have HC := Lib.hid (And.intro hi2 hb2)
  clear hi2 hb2
  refine hK.out _ _ ((HA.out.1.trans (HC.out.2.mono HA.out.1.size)).mono (by have := HE.out.2.2.2.2; omega)) (fun hHeld2 => ?_)
  clear hK K hHeld
  have hHeld := hHeld2
  clear hHeld2
  have HS := Lib.hid (And.intro (HA.out.1.trans (HC.out.2.mono HA.out.1.size)) (And.intro (show SlT w2 (fun q => W1.heap.size ≤ q ∧ q < w2.heap.size) (.slice A1 nd c1) m.data from (SlT.kept HA.out.2 fun k _ hk => HC.out.2.block k hk).mono fun k hk => ⟨hk.1, Nat.lt_of_lt_of_le hk.2 HC.out.2.size⟩) (show EntsT w2 (fun q => W1.heap.size ≤ q ∧ q < w2.heap.size) (.slice A2 ne c2) m.ents from EntsT.move HC.out.1 (fun _ _ _ => rfl) fun k hk => ⟨Nat.le_trans HA.out.1.size hk.1, hk.2⟩)))
  clear HA HC HG HGR
  refine wpAnyH_take (i := 27) (oi := { dst := Option.some 31, op := Op.build 30 #[(0, Operand.tmp 5), (1, Operand.tmp 7), (2, Operand.tmp 9), (3, Operand.tmp 11), (4, Operand.tmp 13), (5, Operand.tmp 15), (6, Operand.tmp 17), (7, Operand.tmp 19), (8, Operand.tmp 21), (9, Operand.tmp 23), (10, Operand.tmp 27), (11, Operand.tmp 30)], type := 30, pos := "law.go:53", after := #[{ on := 1, ground := Ground.data }, { on := 3, ground := Ground.data }, { on := 5, ground := Ground.data }, { on := 7, ground := Ground.data }, { on := 9, ground := Ground.data }, { on := 11, ground := Ground.data }, { on := 13, ground := Ground.data }, { on := 15, ground := Ground.data }, { on := 17, ground := Ground.data }, { on := 19, ground := Ground.data }, { on := 23, ground := Ground.data }, { on := 26, ground := Ground.data }], guard := Option.none }) (v := .agg #[.int .i64 m.kind, .int .i64 m.frm, .int .i64 m.to, .int .i64 m.term, .int .i64 m.index, .int .i64 m.logTerm, .int .i64 m.commit, .int .i64 m.round, .bool m.ok, .int .i64 m.off, .slice A1 nd c1, .slice A2 ne c2]) rfl (by kernel_rfl) (by kernel_rfl) (by kernel_rfl) (fun _ _ _ h => h) (Or.inl ⟨by rfl, ?_⟩) hHeld ?_
  · intro W hSw
    go_simp
  simp only [Act.put, List.setIfInBounds_toArray, List.set_cons_zero, List.set_cons_succ]
  have hS := (HS.out.1.block g2 (obj_lt HE.out.2.2.1)).trans HE.out.2.2.1
  obtain ⟨y0, y1, y2, y3, y4, y5, y6, y7, y8, y9, y10, y11⟩ := cells12 hS
  have fz := fun j => frozen_own hS j
  have f0 := fz 0
  have f1 := fz 1
  have f2 := fz 2
  have f3 := fz 3
  have f4 := fz 4
  have f5 := fz 5
  have f6 := fz 6
  have f7 := fz 7
  have f8 := fz 8
  have f9 := fz 9
  have f10 := fz 10
  have f11 := fz 11
  have HS2 := Lib.hid hS
  clear hS fz
  refine wpAnyH_ready (rs := [28]) (by kernel_rfl) (by simp) ?_
  refine AllReadyH.cons (o := { dst := Option.none, op := Op.store 30 (Operand.tmp 2) (Operand.tmp 31), type := 0, pos := "law.go:53", after := #[{ on := 27, ground := Ground.data }, { on := 26, ground := Ground.chain }, { on := 0, ground := Ground.phase }, { on := 1, ground := Ground.phase }, { on := 2, ground := Ground.phase }, { on := 3, ground := Ground.phase }, { on := 4, ground := Ground.phase }, { on := 5, ground := Ground.phase }, { on := 6, ground := Ground.phase }, { on := 7, ground := Ground.phase }, { on := 8, ground := Ground.phase }, { on := 9, ground := Ground.phase }, { on := 10, ground := Ground.phase }, { on := 11, ground := Ground.phase }, { on := 12, ground := Ground.phase }, { on := 13, ground := Ground.phase }, { on := 14, ground := Ground.phase }, { on := 15, ground := Ground.phase }, { on := 16, ground := Ground.phase }, { on := 17, ground := Ground.phase }, { on := 18, ground := Ground.phase }, { on := 19, ground := Ground.phase }, { on := 20, ground := Ground.phase }, { on := 21, ground := Ground.phase }, { on := 22, ground := Ground.phase }, { on := 23, ground := Ground.phase }, { on := 24, ground := Ground.phase }, { on := 25, ground := Ground.phase }, { on := 26, ground := Ground.phase }, { on := 27, ground := Ground.phase }], guard := Option.none }) rfl (fun K hK => ?_) AllReadyH.nil
  go_simp
  obtain ⟨WF, hWF, hown, hbl, hoth, hsz2⟩ := put12 HS2.out (.int .i64 m.kind) (.int .i64 m.frm) (.int .i64 m.to) (.int .i64 m.term) (.int .i64 m.index) (.int .i64 m.logTerm) (.int .i64 m.commit) (.int .i64 m.round) (.bool m.ok) (.int .i64 m.off) (.slice A1 nd c1) (.slice A2 ne c2)
  obtain ⟨z0, z1, z2, z3, z4, z5, z6, z7, z8, z9, z10, z11⟩ := cells12 hown
  have hbF := hbl g2 (Nat.le_refl _)
  rw [← hWF]
  have HF := Lib.hid (And.intro (HS.out.1.mono (show g2 ≤ W1.heap.size by have := HE.out.2.2.2.2; omega) |>.trans hbF) (And.intro hoth hsz2))
  refine hK.out _ _ HF.out.1 (fun hHeld2 => ?_)
  clear hK K hHeld hHeld2 hWF hown hbl hoth hsz2 hbF y0 f0 y1 f1 y2 f2 y3 f3 y4 f4 y5 f5 y6 f6 y7 f7 y8 f8 y9 f9 y10 f10 y11 f11
  refine wpAnyH_done (by kernel_rfl) ?_ _
  go_wp2_with fail
  have hbw : Below w.heap.size w WF := HE.out.1.trans (HF.out.1.mono HE.out.2.2.2.1)
  refine bodyPost_ret (v := .agg #[.int .i64 m.kind, .int .i64 m.frm, .int .i64 m.to, .int .i64 m.term, .int .i64 m.index, .int .i64 m.logTerm, .int .i64 m.commit, .int .i64 m.round, .bool m.ok, .int .i64 m.off, .slice A1 nd c1, .slice A2 ne c2]) ?_ rfl ⟨A1, c1, A2, c2, rfl, ⟨?_, ?_, HN.out.2.2.2.i0⟩, hbw⟩
  · simp only [results, hres]
    go_simp
  · refine (SlT.kept HS.out.2.1 fun k hk _ => HF.out.2.1 k ?_).mono fun k hk => by rw [HF.out.2.2]; exact hk.2
    have := hk.1; have := HE.out.2.2.2.2; omega
  · refine ⟨EntsT.move HS.out.2.2 (fun k hk _ => HF.out.2.1 k ?_) fun k hk => by rw [HF.out.2.2]; exact hk.2, HN.out.2.2.2.ents.2⟩
    have := hk.1; have := HE.out.2.2.2.2; omega



end Go.Proofs.YtfblgkcipnkhaaaGreatDoor.pk

/-
  Plain mathematics of the sum CRC-32C: a step is linear and loses nothing; so what lies within four bytes that follow one another is told. Nothing of a program is in it.
-/
namespace Go.Proofs.YtfblgkcipnkhaaaGreatDoor.pk
open Go

/-- Halved, and, if it was odd, xored. -/
def sh (r : Nat) : Nat := if r % 2 = 1 then r / 2 ^^^ 2197175160 else r / 2
def rep : Nat → Nat → Nat
  | 0, r => r
  | k + 1, r => rep k (sh r)
/-- A byte taken in. -/
def crcB (r c : Nat) : Nat := rep 8 (r ^^^ c)
def crc (r : Nat) : List UInt8 → Nat
  | [] => r
  | c :: l => crc (crcB r c.toNat) l
/-- The sum of bytes. -/
def sum (l : List UInt8) : Nat := 4294967295 ^^^ crc 4294967295 l

theorem xor_div2 (a b : Nat) : (a ^^^ b) / 2 = a / 2 ^^^ b / 2 := by simpa using Nat.xor_div_two_pow (a := a) (b := b) (n := 1)
theorem xor_lc (a b c : Nat) : a ^^^ (b ^^^ c) = b ^^^ (a ^^^ c) := by rw [← Nat.xor_assoc, Nat.xor_comm a b, Nat.xor_assoc]
theorem xor_zero_eq {a b : Nat} (h : a ^^^ b = 0) : a = b := by
  have : (a ^^^ b) ^^^ b = 0 ^^^ b := by rw [h]
  rw [Nat.xor_assoc, Nat.xor_self, Nat.xor_zero, Nat.zero_xor] at this
  exact this
theorem xor_swap {a b c : Nat} (h : a ^^^ b = c) : b = a ^^^ c := by rw [← h, ← Nat.xor_assoc, Nat.xor_self, Nat.zero_xor]

theorem sh_xor (a b : Nat) : sh (a ^^^ b) = sh a ^^^ sh b := by
  have hm := Nat.xor_mod_two_eq_one (a := a) (b := b)
  unfold sh
  by_cases ha : a % 2 = 1
  · by_cases hb : b % 2 = 1
    · rw [if_neg (by rw [hm]; simp [ha, hb]), if_pos ha, if_pos hb, xor_div2]
      rw [Nat.xor_assoc, xor_lc 2197175160, Nat.xor_self, Nat.xor_zero]
    · rw [if_pos (by rw [hm]; simp [ha, hb]), if_pos ha, if_neg hb, xor_div2]
      rw [Nat.xor_assoc, Nat.xor_assoc, Nat.xor_comm (b / 2)]
  · by_cases hb : b % 2 = 1
    · rw [if_pos (by rw [hm]; simp [ha, hb]), if_neg ha, if_pos hb, xor_div2, Nat.xor_assoc]
    · rw [if_neg (by rw [hm]; simp [ha, hb]), if_neg ha, if_neg hb, xor_div2]
theorem sh_zero : sh 0 = 0 := rfl
theorem sh_lt {a : Nat} (h : a < 4294967296) : sh a < 4294967296 := by
  unfold sh
  by_cases ha : a % 2 = 1
  · rw [if_pos ha]
    exact Nat.xor_lt_two_pow (n := 32) (by omega) (by omega)
  · rw [if_neg ha]; omega
theorem sh_eq_zero {a : Nat} (h : a < 4294967296) (h0 : sh a = 0) : a = 0 := by
  unfold sh at h0
  by_cases ha : a % 2 = 1
  · rw [if_pos ha] at h0
    have := xor_zero_eq h0
    omega
  · rw [if_neg ha] at h0; omega
theorem sh_double (m : Nat) : sh (2 * m) = m := by unfold sh; rw [if_neg (by omega)]; omega

theorem rep_xor : ∀ (k a b : Nat), rep k (a ^^^ b) = rep k a ^^^ rep k b
  | 0, _, _ => rfl
  | k + 1, a, b => by unfold rep; rw [sh_xor, rep_xor k]
theorem rep_zero : ∀ k, rep k 0 = 0
  | 0 => rfl
  | k + 1 => by unfold rep; rw [sh_zero, rep_zero k]
theorem rep_lt : ∀ (k : Nat) {a : Nat}, a < 4294967296 → rep k a < 4294967296
  | 0, _, h => h
  | k + 1, _, h => by unfold rep; exact rep_lt k (sh_lt h)
theorem rep_eq_zero : ∀ (k : Nat) {a : Nat}, a < 4294967296 → rep k a = 0 → a = 0
  | 0, _, _, h => h
  | k + 1, _, hl, h => by unfold rep at h; exact sh_eq_zero hl (rep_eq_zero k (sh_lt hl) h)
theorem rep_add : ∀ (j k a : Nat), rep (j + k) a = rep k (rep j a)
  | 0, k, a => by rw [Nat.zero_add]; rfl
  | j + 1, k, a => by rw [show j + 1 + k = (j + k) + 1 from by omega]; exact rep_add j k (sh a)
theorem rep_byte (m : Nat) : rep 8 (256 * m) = m := by
  have h : 256 * m = 2 * (2 * (2 * (2 * (2 * (2 * (2 * (2 * m))))))) := by omega
  rw [h]
  simp only [rep, sh_double]

/-- Bytes as a number, the lowest first. -/
def le : List UInt8 → Nat
  | [] => 0
  | c :: l => c.toNat ^^^ 256 * le l

theorem mul256_xor (a b : Nat) : 256 * (a ^^^ b) = 256 * a ^^^ 256 * b := by
  have h := Nat.shiftLeft_xor_distrib (i := 8) (a := a) (b := b)
  simp only [Nat.shiftLeft_eq] at h
  rw [Nat.mul_comm 256, Nat.mul_comm 256, Nat.mul_comm 256]
  exact h
theorem xor256_div (c m : Nat) (h : c < 256) : (c ^^^ 256 * m) / 256 = m := by
  have := Nat.xor_div_two_pow (a := c) (b := 256 * m) (n := 8)
  simp only [show (2 : Nat) ^ 8 = 256 from rfl] at this
  rw [this, Nat.div_eq_of_lt h, Nat.mul_div_cancel_left m (by omega), Nat.zero_xor]
theorem xor256_mod (c m : Nat) (h : c < 256) : (c ^^^ 256 * m) % 256 = c := by
  have := Nat.xor_mod_two_pow (a := c) (b := 256 * m) (n := 8)
  simp only [show (2 : Nat) ^ 8 = 256 from rfl] at this
  rw [this, Nat.mod_eq_of_lt h, Nat.mul_mod_right, Nat.xor_zero]
theorem xor256 (c m : Nat) (h : c < 256) : c ^^^ 256 * m = c + 256 * m := by
  have h1 := xor256_div c m h
  have h2 := xor256_mod c m h
  omega

theorem crc_append : ∀ (l r : List UInt8) (s : Nat), crc s (l ++ r) = crc (crc s l) r
  | [], _, _ => rfl
  | c :: l, r, s => crc_append l r (crcB s c.toNat)
theorem crc_le : ∀ (l : List UInt8) (s : Nat), crc s l = rep (8 * l.length) (s ^^^ le l)
  | [], s => (Nat.xor_zero s).symm
  | c :: l, s => by
    unfold crc le
    rw [crc_le l, List.length_cons, show 8 * (l.length + 1) = 8 + 8 * l.length from by omega, rep_add, ← Nat.xor_assoc, rep_xor 8, rep_byte]
    rfl

/-- Two lists of bytes, one byte xored to the other one. -/
def xorL : List UInt8 → List UInt8 → List UInt8
  | c :: l, d :: r => (c ^^^ d) :: xorL l r
  | [], _ => []
  | l, [] => l

theorem crc_xor : ∀ (l r : List UInt8) (s t : Nat), l.length = r.length → crc (s ^^^ t) (xorL l r) = crc s l ^^^ crc t r
  | [], [], _, _, _ => rfl
  | c :: l, d :: r, s, t, h => by
    unfold xorL crc
    rw [← crc_xor l r _ _ (by simpa using h)]
    congr 1
    unfold crcB
    rw [← rep_xor, UInt8.toNat_xor]
    congr 1
    rw [Nat.xor_assoc, Nat.xor_assoc, xor_lc t]
  | [], _ :: _, _, _, h => by simp at h
  | _ :: _, [], _, _, h => by simp at h

theorem crc_lt : ∀ (l : List UInt8) {s : Nat}, s < 4294967296 → crc s l < 4294967296
  | [], _, h => h
  | c :: l, s, h => by
    unfold crc
    exact crc_lt l (rep_lt 8 (Nat.xor_lt_two_pow (n := 32) (by omega) (by have := c.toNat_lt; omega)))

theorem crc_zeros : ∀ (n s : Nat), crc s (List.replicate n 0) = rep (8 * n) s
  | 0, _ => rfl
  | n + 1, s => by
    rw [List.replicate_succ]
    unfold crc
    rw [crc_zeros n, show 8 * (n + 1) = 8 + 8 * n from by omega, rep_add]
    simp [crcB]

theorem le_lt : ∀ (l : List UInt8), le l < 256 ^ l.length
  | [] => by simp [le]
  | c :: l => by
    have ih := le_lt l
    have hc := c.toNat_lt
    unfold le
    rw [xor256 _ _ (by omega), List.length_cons, Nat.pow_succ]
    omega
theorem le_eq_zero : ∀ (l : List UInt8), le l = 0 → ∀ c ∈ l, c = 0
  | [], _, c, hc => by simp at hc
  | d :: l, h, c, hc => by
    have hd := d.toNat_lt
    unfold le at h
    rw [xor256 _ _ (by omega)] at h
    rcases List.mem_cons.1 hc with rfl | hc
    · exact UInt8.toNat_inj.1 (by simp; omega)
    · exact le_eq_zero l (by omega) c hc
theorem le_inj : ∀ (l r : List UInt8), l.length = r.length → le l = le r → l = r
  | [], [], _, _ => rfl
  | c :: l, d :: r, h, e => by
    have hc := c.toNat_lt
    have hd := d.toNat_lt
    unfold le at e
    rw [xor256 _ _ (by omega), xor256 _ _ (by omega)] at e
    rw [le_inj l r (by simpa using h) (by omega), UInt8.toNat_inj.1 (show c.toNat = d.toNat from by omega)]
  | [], _ :: _, h, _ => by simp at h
  | _ :: _, [], h, _ => by simp at h

/-- What lies within four bytes that follow one another, others 0: it leaves 0 only where all are 0. -/
theorem burst (m n : Nat) (e : List UInt8) (he : e.length ≤ 4) (h : crc 0 (List.replicate m 0 ++ e ++ List.replicate n 0) = 0) : ∀ c ∈ e, c = 0 := by
  rw [crc_append, crc_append, crc_zeros n, crc_zeros m, rep_zero, crc_le e, Nat.zero_xor] at h
  have hl : le e < 4294967296 := by
    have h1 := le_lt e
    have h2 : (256 : Nat) ^ e.length ≤ 256 ^ 4 := Nat.pow_le_pow_right (by omega) he
    simp only [show (256 : Nat) ^ 4 = 4294967296 from rfl] at h2
    omega
  exact le_eq_zero e (rep_eq_zero _ hl (rep_eq_zero _ (rep_lt _ hl) h))

/-- A sum's bytes, the lowest first. -/
def tail4 (n : Nat) : List UInt8 := [UInt8.ofNat (n % 256), UInt8.ofNat (n / 256 % 256), UInt8.ofNat (n / 65536 % 256), UInt8.ofNat (n / 16777216 % 256)]
theorem tail4_len (n : Nat) : (tail4 n).length = 4 := rfl
theorem toNat_ofNat (n : Nat) : (UInt8.ofNat (n % 256)).toNat = n % 256 := by simp
theorem le_tail4 (n : Nat) (h : n < 4294967296) : le (tail4 n) = n := by
  unfold tail4 le le le le le
  simp only [toNat_ofNat]
  rw [xor256 _ _ (by omega), xor256 _ _ (by omega), xor256 _ _ (by omega), xor256 _ _ (by omega)]
  omega

/-- The register behind all of what is sealed rightly. -/
def good : Nat := rep 32 4294967295

/-- Bytes with four behind them: these are the sum if and only if the register is the good one. -/
theorem sealed_iff (l t : List UInt8) (ht : t.length = 4) : crc 4294967295 (l ++ t) = good ↔ t = tail4 (sum l) := by
  have hL := crc_lt l (s := 4294967295) (by omega)
  have hT : le t < 4294967296 := by have := le_lt t; rw [ht] at this; simpa using this
  have hS : sum l < 4294967296 := Nat.xor_lt_two_pow (n := 32) (by omega) (by omega)
  rw [crc_append, crc_le t, ht]
  unfold good
  constructor
  · intro h
    have h1 : rep 32 (crc 4294967295 l ^^^ le t ^^^ 4294967295) = 0 := by
      have h' : rep 32 (crc 4294967295 l ^^^ le t) = rep 32 4294967295 := h
      rw [rep_xor, h', Nat.xor_self]
    have h2 := rep_eq_zero 32 (Nat.xor_lt_two_pow (n := 32) (Nat.xor_lt_two_pow (n := 32) (by omega) (by omega)) (by omega)) h1
    have h3 := xor_swap (xor_zero_eq h2)
    refine le_inj _ _ (by rw [ht, tail4_len]) ?_
    rw [le_tail4 _ hS, h3]
    unfold sum
    rw [Nat.xor_comm]
  · intro h
    rw [h, le_tail4 _ hS]
    unfold sum
    rw [xor_lc, Nat.xor_self, Nat.xor_zero]

/-- WHAT IS SEALED AND THEN CHANGED WITHIN FOUR BYTES IS TOLD. -/
theorem near (l t l' t' : List UInt8) (ht : t.length = 4) (ht' : t'.length = 4) (hs : t = tail4 (sum l)) (m n : Nat) (e : List UInt8) (he : e.length ≤ 4) (hl : (l ++ t).length = m + e.length + n)
    (hx : l' ++ t' = xorL (l ++ t) (List.replicate m 0 ++ e ++ List.replicate n 0)) (hne : ∃ c ∈ e, c ≠ 0) : t' ≠ tail4 (sum l') := by
  intro h
  have h1 := (sealed_iff l t ht).2 hs
  have h2 := (sealed_iff l' t' ht').2 h
  have h3 := crc_xor (l ++ t) (List.replicate m 0 ++ e ++ List.replicate n 0) 4294967295 0 (by rw [hl]; simp only [List.length_append, List.length_replicate])
  rw [Nat.xor_zero, ← hx, h2, h1] at h3
  have h4 : crc 0 (List.replicate m 0 ++ e ++ List.replicate n 0) = 0 := by
    rw [xor_swap h3.symm, Nat.xor_self]
  obtain ⟨c, hc, hn⟩ := hne
  exact hn (burst m n e he h4 c hc)

end Go.Proofs.YtfblgkcipnkhaaaGreatDoor.pk

/-
  Plain mathematics of what is sealed and opened.
-/
namespace Go.Proofs.YtfblgkcipnkhaaaGreatDoor.pk
open Go Go.RowKit
set_option maxRecDepth 100000

theorem xor_all (a : Nat) (h : a < 2 ^ 32) : (2 ^ 32 - 1) ^^^ a = 2 ^ 32 - 1 - a := by
  have h1 := (BitVec.ofNat 32 a).toNat_not
  have h2 : (~~~(BitVec.ofNat 32 a)) = BitVec.allOnes 32 ^^^ BitVec.ofNat 32 a := by rw [BitVec.allOnes_xor]
  rw [h2, BitVec.toNat_xor, BitVec.toNat_allOnes, BitVec.toNat_ofNat, Nat.mod_eq_of_lt h] at h1
  exact h1
theorem sum_sub (l : List UInt8) : sum l = 4294967295 - crc 4294967295 l := xor_all _ (crc_lt l (s := 4294967295) (by omega))

/-- What sealing bytes of a kind gives: the error's number, the bytes. -/
def sealE (kind : UInt8) (b : List UInt8) : Nat := if kind = 0 then 1 else if 1048576 < b.length then 2 else 0
def sealB (kind : UInt8) (b : List UInt8) : List UInt8 := if sealE kind b = 0 then (kind :: b) ++ tail4 (sum (kind :: b)) else []

theorem sum_lt (l : List UInt8) : sum l < 4294967296 := by
  have := crc_lt l (s := 4294967295) (by omega)
  rw [sum_sub]; omega

/-- What opening bytes gives: the error's number, the kind, the bytes between. -/
def openE (b : List UInt8) : Nat :=
  if b.length < 5 then 12 else if tail4 (sum (b.take (b.length - 4))) ≠ b.drop (b.length - 4) then 11 else if b.headD 0 = 0 then 1 else if 1048577 < b.length - 4 then 2 else 0
def openK (b : List UInt8) : UInt8 := if openE b = 0 then b.headD 0 else 0
def openX (b : List UInt8) : List UInt8 := if openE b = 0 then (b.take (b.length - 4)).drop 1 else []

theorem text_ne {x y : List UInt8} (h : x ≠ y) : (⟨x.toArray⟩ : ByteArray) ≠ ⟨y.toArray⟩ := fun e => h (by injection e with e; exact List.toArray_inj e)

/-- The sum of all, if s is that of the bytes ahead. -/
def more (s : Nat) (l : List UInt8) : Nat := 4294967295 ^^^ crc (4294967295 ^^^ s) l
theorem more_sum (a b : List UInt8) : more (sum a) b = sum (a ++ b) := by
  unfold more sum
  rw [crc_append, ← Nat.xor_assoc, Nat.xor_self, Nat.zero_xor]
theorem more_zero (b : List UInt8) : more 0 b = sum b := rfl

/-- What is sealed is opened as it was. -/
theorem seal_open (kind : UInt8) (b : List UInt8) (h : sealE kind b = 0) : openE (sealB kind b) = 0 ∧ openK (sealB kind b) = kind ∧ openX (sealB kind b) = b := by
  have hb : sealB kind b = (kind :: b) ++ tail4 (sum (kind :: b)) := by unfold sealB; rw [if_pos h]
  have hl : (sealB kind b).length - 4 = (kind :: b).length := by rw [hb, List.length_append, tail4_len]; omega
  have hk : kind ≠ 0 ∧ ¬ 1048576 < b.length := by
    unfold sealE at h
    by_cases h0 : kind = 0
    · rw [if_pos h0] at h; omega
    · rw [if_neg h0] at h
      refine ⟨h0, fun h1 => ?_⟩
      rw [if_pos h1] at h; omega
  have ht : (sealB kind b).take ((sealB kind b).length - 4) = kind :: b := by rw [hl, hb, List.take_left]
  have hd : (sealB kind b).drop ((sealB kind b).length - 4) = tail4 (sum (kind :: b)) := by rw [hl, hb, List.drop_left]
  have hh : (sealB kind b).headD 0 = kind := by rw [hb]; rfl
  have he : openE (sealB kind b) = 0 := by
    unfold openE
    rw [if_neg (by rw [hb, List.length_append, tail4_len, List.length_cons]; omega), ht, hd, if_neg (by simp), hh, if_neg hk.1, hl, if_neg (by rw [List.length_cons]; omega)]
  refine ⟨he, ?_, ?_⟩
  · unfold openK; rw [if_pos he, hh]
  · unfold openX; rw [if_pos he, ht]; rfl

theorem sum_check : sum [49, 50, 51, 52, 53, 54, 55, 56, 57] = 3808858755 := by kernel_rfl
theorem sealE_ab : sealE 7 [97, 98] = 0 := by kernel_rfl

end Go.Proofs.YtfblgkcipnkhaaaGreatDoor.pk

/-
  Plain mathematics of the law SealNear: a window of up to four bytes that are xored; where none of it is 0's fellow, it is told.
-/
namespace Go.Proofs.YtfblgkcipnkhaaaGreatDoor.pk
open Go
set_option maxRecDepth 100000

theorem xorL_zip : ∀ (l r : List UInt8), l.length = r.length → xorL l r = List.zipWith (· ^^^ ·) l r
  | [], [], _ => rfl
  | c :: l, d :: r, h => by unfold xorL; rw [xorL_zip l r (by simpa using h)]; rfl
  | [], _ :: _, h => by simp at h
  | _ :: _, [], h => by simp at h

/-- The window's mask: j bytes from the place i on. -/
def mask (N i : Nat) (by4 : List UInt8) (j : Nat) : List UInt8 := (List.range N).map fun k => if i ≤ k ∧ k < i + j then by4.getD (k - i) 0 else 0
theorem mask_len (N i : Nat) (by4 : List UInt8) (j : Nat) : (mask N i by4 j).length = N := by simp [mask]
theorem mask_get (N i : Nat) (by4 : List UInt8) (j k : Nat) (h : k < (mask N i by4 j).length) : (mask N i by4 j)[k] = if i ≤ k ∧ k < i + j then by4.getD (k - i) 0 else 0 := by simp [mask]

/-- What is left behind j bytes of the window. -/
def win (S : List UInt8) (i : Nat) (by4 : List UInt8) (j : Nat) : List UInt8 := List.zipWith (· ^^^ ·) S (mask S.length i by4 j)
theorem win_len (S : List UInt8) (i : Nat) (by4 : List UInt8) (j : Nat) : (win S i by4 j).length = S.length := by simp [win, mask_len]
theorem win_get (S : List UInt8) (i : Nat) (by4 : List UInt8) (j k : Nat) (h : k < S.length) : (win S i by4 j)[k]'(by rw [win_len]; exact h) = S[k] ^^^ (if i ≤ k ∧ k < i + j then by4.getD (k - i) 0 else 0) := by
  unfold win
  rw [List.getElem_zipWith, mask_get]
theorem win_zero (S : List UInt8) (i : Nat) (by4 : List UInt8) (j : Nat) (h : ∀ k, k < j → by4.getD k 0 = 0) : win S i by4 j = S := by
  refine List.ext_getElem (win_len ..) fun k h1 h2 => ?_
  rw [win_get S i by4 j k h2]
  by_cases hk : i ≤ k ∧ k < i + j
  · rw [if_pos hk, h _ (by omega)]; simp
  · rw [if_neg hk]; simp
theorem win_none (S : List UInt8) (i : Nat) (by4 : List UInt8) : win S i by4 0 = S := by
  refine List.ext_getElem (win_len ..) fun k h1 h2 => ?_
  rw [win_get S i by4 0 k h2, if_neg (by omega)]; simp
theorem win_step (S : List UInt8) (i : Nat) (by4 : List UInt8) (j : Nat) (h : i + j < S.length) : (win S i by4 j).set (i + j) (S[i + j] ^^^ by4.getD j 0) = win S i by4 (j + 1) := by
  refine List.ext_getElem (by rw [List.length_set, win_len, win_len]) fun k h1 h2 => ?_
  rw [List.length_set, win_len] at h1
  rw [win_get S i by4 (j + 1) k h1, List.getElem_set]
  by_cases hk : i + j = k
  · subst hk
    rw [if_pos rfl, if_pos (by omega), show i + j - i = j from by omega]
  · rw [if_neg hk, win_get S i by4 j k h1]
    by_cases h2 : i ≤ k ∧ k < i + j
    · rw [if_pos h2, if_pos (by omega)]
    · rw [if_neg h2, if_neg (by omega)]
theorem win_at (S : List UInt8) (i : Nat) (by4 : List UInt8) (j : Nat) (h : i + j < S.length) : (win S i by4 j)[i + j]'(by rw [win_len]; exact h) = S[i + j] := by
  rw [win_get S i by4 j _ h, if_neg (by omega)]; simp

/-- Is one of the first j another one than 0? -/
def some4 (by4 : List UInt8) : Nat → Bool
  | 0 => false
  | j + 1 => some4 by4 j || by4.getD j 0 != 0
theorem some4_false (by4 : List UInt8) : ∀ j, some4 by4 j = false → ∀ k, k < j → by4.getD k 0 = 0
  | 0, _, k, hk => by omega
  | j + 1, h, k, hk => by
    unfold some4 at h
    rw [Bool.or_eq_false_iff] at h
    by_cases he : k = j
    · subst he; simpa using h.2
    · exact some4_false by4 j h.1 k (by omega)
theorem some4_true (by4 : List UInt8) : ∀ j, some4 by4 j = true → ∃ k, k < j ∧ by4.getD k 0 ≠ 0
  | 0, h => by simp [some4] at h
  | j + 1, h => by
    unfold some4 at h
    rw [Bool.or_eq_true] at h
    rcases h with h | h
    · obtain ⟨k, hk, hn⟩ := some4_true by4 j h
      exact ⟨k, by omega, hn⟩
    · exact ⟨j, by omega, by simpa using h⟩

/-- A list that is 0 but within four places. -/
theorem mask_split (M : List UInt8) (i : Nat) (hi : i ≤ M.length) (h : ∀ k (hk : k < M.length), (k < i ∨ i + 4 ≤ k) → M[k] = 0) :
    M = List.replicate i 0 ++ (M.drop i).take 4 ++ List.replicate (M.length - i - 4) 0 := by
  have h1 : M.take i = List.replicate i 0 := by
    refine List.eq_replicate_iff.2 ⟨by rw [List.length_take]; omega, fun c hc => ?_⟩
    obtain ⟨k, hk, rfl⟩ := List.mem_iff_getElem.1 hc
    rw [List.length_take] at hk
    rw [List.getElem_take]
    exact h k (by omega) (Or.inl (by omega))
  have h2 : (M.drop i).drop 4 = List.replicate (M.length - i - 4) 0 := by
    refine List.eq_replicate_iff.2 ⟨by rw [List.length_drop, List.length_drop], fun c hc => ?_⟩
    obtain ⟨k, hk, rfl⟩ := List.mem_iff_getElem.1 hc
    rw [List.length_drop, List.length_drop] at hk
    rw [List.getElem_drop, List.getElem_drop]
    exact h _ (by omega) (Or.inr (by omega))
  rw [← h1, ← h2, List.append_assoc, List.take_append_drop, List.take_append_drop]

/-- WHAT BECOMES OF UP TO FOUR BYTES IS TOLD. -/
theorem near_told (kind : UInt8) (b : List UInt8) (hs : sealE kind b = 0) (i : Nat) (by4 : List UInt8) (j : Nat) (hj : j ≤ 4) (hij : i + j ≤ (sealB kind b).length) (h : some4 by4 j = true) : openE (win (sealB kind b) i by4 j) = 11 := by
  have hb : sealB kind b = (kind :: b) ++ tail4 (sum (kind :: b)) := by unfold sealB; rw [if_pos hs]
  have hlen : (sealB kind b).length = b.length + 5 := by rw [hb, List.length_append, tail4_len, List.length_cons]
  generalize hS : sealB kind b = S at *
  have hM := mask_split (mask S.length i by4 j) i (by rw [mask_len]; omega) (fun k hk h => by
    rw [mask_get, if_neg (by omega)])
  rw [mask_len] at hM
  have hT : win S i by4 j = xorL S (mask S.length i by4 j) := by rw [xorL_zip _ _ (by rw [mask_len])]; rfl
  have hTl := win_len S i by4 j
  obtain ⟨k, hk, hn⟩ := some4_true by4 j h
  have hne : ∃ c ∈ ((mask S.length i by4 j).drop i).take 4, c ≠ 0 := by
    have hlt : k < (((mask S.length i by4 j).drop i).take 4).length := by rw [List.length_take, List.length_drop, mask_len]; omega
    refine ⟨(((mask S.length i by4 j).drop i).take 4)[k], List.getElem_mem hlt, ?_⟩
    rw [List.getElem_take, List.getElem_drop, mask_get, if_pos (by omega), show i + k - i = k from by omega]
    exact hn
  have hnear := near (kind :: b) (tail4 (sum (kind :: b))) ((win S i by4 j).take ((win S i by4 j).length - 4)) ((win S i by4 j).drop ((win S i by4 j).length - 4)) (tail4_len _) (by rw [List.length_drop]; omega) rfl
    i (S.length - i - 4) (((mask S.length i by4 j).drop i).take 4) (by rw [List.length_take]; omega)
    (by rw [← hb, List.length_take, List.length_drop, mask_len]; omega)
    (by rw [List.take_append_drop, hT, ← hb]; exact congrArg (xorL S) hM) hne
  unfold openE
  rw [if_neg (by omega), if_pos (fun e => hnear e.symm)]

end Go.Proofs.YtfblgkcipnkhaaaGreatDoor.pk

/-
  Frames: what is sealed is opened as it was; cut, with more behind, or with a byte another one it is none.
-/
namespace Go.Proofs.YtfblgkcipnkhaaaGreatDoor.pk
open Go

def sealM (m : Ms) : List UInt8 := sealB 109 (encM m)
def openM (b : List UInt8) : Ms × Nat := if openE b = 0 ∧ openK b = 109 then decM (openX b) else (zm, 3)

theorem encEs_len {d : Nat} : ∀ {l : List En}, (∀ e ∈ l, e.data.length ≤ d) → d ≤ 1000000 → (encEs l).length ≤ l.length * (d + 110)
  | [], _, _ => by simp [encEs]
  | e :: l, h, hd => by
    have h1 := encEs_len (l := l) (fun x hx => h x (List.mem_cons_of_mem _ hx)) hd
    have h2 := h e (List.mem_cons_self ..)
    have h3 := encE_len (e := e) (by omega)
    have h4 := digits_len (encE e).length (by omega)
    rw [encEs_cons, List.length_append, List.length_cons, Nat.add_mul, Nat.one_mul]
    have h5 : (lBytes (encE e)).length ≤ 22 + (encE e).length := by unfold lBytes lHead; simp only [List.length_append, List.length_cons, List.length_nil]; omega
    omega
theorem encM_len {m : Ms} (h1 : m.data.length ≤ 1000000) (h2 : m.ents.length ≤ 1000000) : (encM m).length ≤ 300 + m.data.length + (encEs m.ents).length := by
  have a1 := dec_len _ (u64_lt m.kind)
  have a2 := dec_len _ (u64_lt m.frm)
  have a3 := dec_len _ (u64_lt m.to)
  have a4 := dec_len _ (u64_lt m.term)
  have a5 := dec_len _ (u64_lt m.index)
  have a6 := dec_len _ (u64_lt m.logTerm)
  have a7 := dec_len _ (u64_lt m.commit)
  have a8 := dec_len _ (u64_lt m.round)
  have a9 := dec_len _ (u64_lt m.off)
  have b1 := dec_len m.ents.length (by omega)
  have b2 := digits_len m.data.length (by omega)
  have b3 : (lBool m.ok).length = 1 := rfl
  have b4 : (lBytes m.data).length ≤ 22 + m.data.length := by unfold lBytes lHead; simp only [List.length_append, List.length_cons, List.length_nil]; omega
  unfold encM headM
  simp only [List.length_append]
  omega
theorem sealM_ok {m : Ms} (h : mayM m = true) : sealE 109 (encM m) = 0 := by
  obtain ⟨-, ⟨-, -, -, -, -, -, -, -, -, -, h1, h2⟩, h3⟩ := mayM_iff.1 h
  have h4 := encEs_len (l := m.ents) (d := 4096) (fun e he => (fitM_iff.1 (h3 e he)).2.2.2.2.2.2) (by omega)
  have h5 := encM_len (m := m) (by omega) (by omega)
  have h6 : m.ents.length * (4096 + 110) ≤ 64 * 4206 := Nat.mul_le_mul h2 (by omega)
  unfold sealE
  rw [if_neg (by decide), if_neg (by omega)]
theorem sealM_eq {m : Ms} (h : mayM m = true) : sealM m = (109 :: encM m) ++ tail4 (sum (109 :: encM m)) := by
  unfold sealM sealB
  rw [if_pos (sealM_ok h)]
theorem sealM_len {m : Ms} (h : mayM m = true) : (sealM m).length = (encM m).length + 5 := by
  rw [sealM_eq h, List.length_append, tail4_len, List.length_cons]
theorem openM_seal {m : Ms} (h : mayM m = true) : openM (sealM m) = (m, 0) := by
  obtain ⟨h1, h2, h3⟩ := seal_open 109 (encM m) (sealM_ok h)
  unfold openM sealM
  rw [if_pos ⟨h1, h2⟩, h3]
  exact decM_lay h
theorem openE_five {b : List UInt8} (h : openE b = 0) : 5 ≤ b.length := by
  unfold openE at h
  by_cases h0 : b.length < 5
  · rw [if_pos h0] at h; cases h
  · omega
theorem openM_cut {m : Ms} (h : mayM m = true) {i : Nat} (hi : i < (sealM m).length) : openM ((sealM m).take i) = (zm, 3) := by
  unfold openM
  by_cases hc : openE ((sealM m).take i) = 0 ∧ openK ((sealM m).take i) = 109
  · rw [if_pos hc]
    have h5 := openE_five hc.1
    have hl := sealM_len h
    rw [List.length_take] at h5
    have hx : openX ((sealM m).take i) = (encM m).take (i - 5) := by
      unfold openX
      rw [if_pos hc.1, List.length_take, List.take_take, sealM_eq h, List.cons_append, show min (min i ((109 :: (encM m ++ tail4 (sum (109 :: encM m)))).length) - 4) i = (i - 5) + 1 by rw [← List.cons_append, ← sealM_eq h, hl]; omega, List.take_succ_cons, List.drop_one, List.tail_cons, List.take_append_of_le_length (by omega)]
    rw [hx]
    exact decM_cut h (by omega)
  · rw [if_neg hc]
theorem openX_more {c t S : List UInt8} (ht : t.length = 4) (hS : S = (109 :: c) ++ t) (x : UInt8) (h : openE (S ++ [x]) = 0) : openX (S ++ [x]) = c ++ t.take 1 := by
  have hl : (S ++ [x]).length - 4 = (c.length + 1) + 1 := by rw [hS]; simp only [List.length_append, List.length_cons, List.length_nil]; omega
  unfold openX
  rw [if_pos h, hl, hS, List.append_assoc, List.cons_append, List.take_succ_cons, List.drop_one, List.tail_cons, List.take_append, List.take_of_length_le (by omega), show c.length + 1 - c.length = 1 by omega, List.take_append_of_le_length (by omega)]
theorem openM_more {m : Ms} (h : mayM m = true) (x : UInt8) : openM (sealM m ++ [x]) = (zm, 3) := by
  obtain ⟨t, ht⟩ : ∃ t, t = tail4 (sum (109 :: encM m)) := ⟨_, rfl⟩
  have ht4 : t.length = 4 := by rw [ht]; exact tail4_len _
  have hS := sealM_eq h
  rw [← ht] at hS
  clear ht
  unfold openM
  by_cases hc : openE (sealM m ++ [x]) = 0 ∧ openK (sealM m ++ [x]) = 109
  · rw [if_pos hc, openX_more ht4 hS x hc.1]
    refine decM_more h fun e => ?_
    have := congrArg List.length e
    rw [List.length_take, List.length_nil] at this
    omega
  · rw [if_neg hc]
theorem openM_turn {m : Ms} (h : mayM m = true) {i : Nat} (hi : i < (sealM m).length) {y : UInt8} (hy : y ≠ 0) : openM ((sealM m).set i ((sealM m)[i] ^^^ y)) = (zm, 3) := by
  have h1 := win_step (sealM m) i [y] 0 (by omega)
  have h2 : (sealM m).set i ((sealM m)[i] ^^^ y) = win (sealM m) i [y] 1 := by
    rw [← h1, win_none]
    rfl
  have h3 := near_told 109 (encM m) (sealM_ok h) i [y] 1 (by omega) (by show i + 1 ≤ (sealM m).length; omega) (by simp [some4, hy])
  have h4 : openE ((sealM m).set i ((sealM m)[i] ^^^ y)) = 11 := by rw [h2]; exact h3
  unfold openM
  rw [if_neg (by rw [h4]; rintro ⟨e, _⟩; cases e)]

end Go.Proofs.YtfblgkcipnkhaaaGreatDoor.pk

/-
  An error as a value; what the package-level variable holds that errors.As reads.
-/
namespace Go.Proofs.YtfblgkcipnkhaaaGreatDoor.pk
open Go Go.RowKit

/-- An error as a value: 0 is none. -/
def ev (k : Nat) : Value := if k = 0 then .nilIface else .iface 60 (.int .i64 (k : Int))

/-- What the package-level variable holds. -/
structure Std (w : World) : Prop where
  typ : w.cell? ⟨0, 0, none⟩ = some (.iface 153 (.agg #[.pointer (some ⟨6, 32, none⟩)]))
  size : 6 ≤ w.heap.size

theorem Std.below {w w' : World} {B : Nat} (h : Std w) (hB : 6 ≤ B) (hb : Below B w w') : Std w' :=
  ⟨(hb.cell (p := ⟨0, 0, none⟩) (by show 0 < B; omega)).trans h.typ, Nat.le_trans h.size hb.size⟩

end Go.Proofs.YtfblgkcipnkhaaaGreatDoor.pk

/-
  The law's own 'num': the number of an error. It comes to errors.As at a target of the error's own type: each call of the library that it makes is told by what the model's entries give at this program's types.
-/
namespace Go.Proofs.YtfblgkcipnkhaaaGreatDoor.pk
open Go Go.RowKit Go.Extern.Stop Go.Stop Go.Extern
set_option maxRecDepth 100000

theorem as_valueOf (t : Addr) (w : World) : (ReflectliteValue.unpack (.iface 90 (.pointer (some t)))).run Tryz.prog w
    = .ok (.agg #[.pointer (some ⟨6, 90, none⟩), .pointer (some ⟨w.heap.size, 0, none⟩), .int .u64 150]) (w.alloc (.cells #[.pointer (some t)] 90)) := by kernel_rfl
theorem as_type (a : Addr) (w : World) : (ReflectliteValue.methodAny (ReflectliteValue.valueError "reflectlite.Value.Type" 0) (fun t _ _ _ => ReflectliteType.toType t) #[.agg #[.pointer (some ⟨6, 90, none⟩), .pointer (some a), .int .u64 150]]).run Tryz.prog w
    = .ok (.iface 153 (.agg #[.pointer (some ⟨6, 90, none⟩)])) w := by kernel_rfl
theorem as_kindP (w : World) : ((ReflectliteType.abiMethod fun t => (fun a : Nat => Value.int IntKind.u8 (a : Int)) <$> Rtype.kind t) #[.pointer (some ⟨6, 90, none⟩)]).run Tryz.prog w = .ok (.int .u8 22) w := by kernel_rfl
theorem as_kindE (w : World) : ((ReflectliteType.abiMethod fun t => (fun a : Nat => Value.int IntKind.u8 (a : Int)) <$> Rtype.kind t) #[.pointer (some ⟨6, 60, none⟩)]).run Tryz.prog w = .ok (.int .u8 2) w := by kernel_rfl
theorem as_method (z : Sem Value) (f : TypeId → Addr → Nat → Nat → Sem Value) (v : Value) :
    ReflectliteValue.method z f #[v] = (do match ← ReflectliteValue.parts v with | none => z | some (t, a, fl) => f t a fl (fl % 32)) := rfl
theorem as_partsP (a : Addr) (w : World) : (ReflectliteValue.parts (.agg #[.pointer (some ⟨6, 90, none⟩), .pointer (some a), .int .u64 150])).run Tryz.prog w = .ok (some (90, a, 150)) w := by kernel_rfl
theorem as_isNil (a p : Addr) (W : World) (ha : W.cell? a = some (.pointer (some p))) :
    (ReflectliteValue.method (ReflectliteValue.valueError "reflectlite.Value.IsNil" 0) ReflectliteValue.isNil #[.agg #[.pointer (some ⟨6, 90, none⟩), .pointer (some a), .int .u64 150]]).run Tryz.prog W = .ok (.bool false) W := by
  rw [as_method]
  simp only [Sem.run_bind, as_partsP, Result.andThen]
  simp [ReflectliteValue.isNil, loadVar, isAgg, underlying, Tryz.underlying90, ha, Result.andThen]
theorem as_elem (w : World) : (ReflectliteType.method ReflectliteType.elem #[.agg #[.pointer (some ⟨6, 90, none⟩)]]).run Tryz.prog w = .ok (.iface 153 (.agg #[.pointer (some ⟨6, 60, none⟩)])) w := by kernel_rfl
theorem as_implements (w : World) : (ReflectliteType.relation "Implements" ReflectliteType.implements_ #[.agg #[.pointer (some ⟨6, 60, none⟩)], .iface 153 (.agg #[.pointer (some ⟨6, 32, none⟩)])]).run Tryz.prog w = .ok (.bool true) w := by kernel_rfl
theorem as_typeOf (v : Value) (w : World) : (ReflectliteType.typeOf #[.iface 60 v]).run Tryz.prog w = .ok (.iface 153 (.agg #[.pointer (some ⟨6, 60, none⟩)])) w := by kernel_rfl
theorem as_assignable (w : World) : (ReflectliteType.relation "AssignableTo" ReflectliteType.assignableTo #[.agg #[.pointer (some ⟨6, 60, none⟩)], .iface 153 (.agg #[.pointer (some ⟨6, 60, none⟩)])]).run Tryz.prog w = .ok (.bool true) w := by kernel_rfl
theorem as_valueE (k : Int) (w : World) : (ReflectliteValue.unpack (.iface 60 (.int .i64 k))).run Tryz.prog w
    = .ok (.agg #[.pointer (some ⟨6, 60, none⟩), .pointer (some ⟨w.heap.size, 0, none⟩), .int .u64 130]) (w.alloc (.cells #[.int .i64 k] 60)) := by kernel_rfl
theorem as_elemOf (w : World) : (Rtype.elem? 90).run Tryz.prog w = .ok (some 60) w := by kernel_rfl
theorem as_mk (p : Addr) (w : World) : (ReflectliteValue.mk 60 p ReflectliteValue.flagAddr).run Tryz.prog w = .ok (.agg #[.pointer (some ⟨6, 60, none⟩), .pointer (some p), .int .u64 386]) w := by kernel_rfl
theorem as_elemV (a p : Addr) (W : World) (ha : W.cell? a = some (.pointer (some p))) :
    (ReflectliteValue.method (ReflectliteValue.valueError "reflectlite.Value.Elem" 0) ReflectliteValue.elem #[.agg #[.pointer (some ⟨6, 90, none⟩), .pointer (some a), .int .u64 150]]).run Tryz.prog W
      = .ok (.agg #[.pointer (some ⟨6, 60, none⟩), .pointer (some p), .int .u64 386]) W := by
  rw [as_method]
  simp only [Sem.run_bind, as_partsP, Result.andThen]
  simp [ReflectliteValue.elem, loadVar, isAgg, underlying, Tryz.underlying90, ha, Result.andThen, as_elemOf, as_mk]
theorem as_partsA (a : Addr) (w : World) : (ReflectliteValue.parts (.agg #[.pointer (some ⟨6, 60, none⟩), .pointer (some a), .int .u64 386])).run Tryz.prog w = .ok (some (60, a, 386)) w := by kernel_rfl
theorem as_partsE (a : Addr) (w : World) : (ReflectliteValue.parts (.agg #[.pointer (some ⟨6, 60, none⟩), .pointer (some a), .int .u64 130])).run Tryz.prog w = .ok (some (60, a, 130)) w := by kernel_rfl
theorem as_direct (w : World) : (Rtype.directlyAssignable 60 60).run Tryz.prog w = .ok true w := by kernel_rfl
/-- Setting the target: what the error's own variable holds is loaded, and stored. -/
theorem as_setStep (ta b : Addr) (W : World) :
    (ReflectliteValue.set #[.agg #[.pointer (some ⟨6, 60, none⟩), .pointer (some ta), .int .u64 386], .agg #[.pointer (some ⟨6, 60, none⟩), .pointer (some b), .int .u64 130]]).run Tryz.prog W
      = (do storeVar 60 ta (← loadVar 60 b); pure (.tuple #[]) : Sem Value).run Tryz.prog W := by kernel_rfl
theorem as_setE (ta b : Addr) (k : Int) (old : Value) (W : World) (hb : W.cell? b = some (.int .i64 k)) (ht : W.cell? ta = some old) (hf : W.frozen? ta = false) :
    (ReflectliteValue.set #[.agg #[.pointer (some ⟨6, 60, none⟩), .pointer (some ta), .int .u64 386], .agg #[.pointer (some ⟨6, 60, none⟩), .pointer (some b), .int .u64 130]]).run Tryz.prog W
      = .ok (.tuple #[]) (W.setCell ta (.int .i64 k)) := by
  rw [as_setStep]
  simp [loadVar, isAgg, underlying, Tryz.underlying60, hb, Result.andThen, storeVar, Value.cells, storeCells, Addr.add]
  rw [run_store Tryz.prog W ta _ _ (by rfl)]
  simp [ht, hf]

end Go.Proofs.YtfblgkcipnkhaaaGreatDoor.pk

/-
  The law's own 'num': the number of an error.
-/
namespace Go.Proofs.YtfblgkcipnkhaaaGreatDoor.pk
open Go Go.RowKit Go.Extern.Stop Go.Stop Go.Extern
set_option maxRecDepth 100000

theorem as_mKind (h : Value) (w : World) : (Go.method 329 153 (.agg #[h]) "Kind").run Tryz.prog w = .ok (143, h) w := by kernel_rfl
theorem as_mElem (h : Value) (w : World) : (Go.method 329 153 (.agg #[h]) "Elem").run Tryz.prog w = .ok (154, .agg #[h]) w := by kernel_rfl
theorem as_mImplements (h : Value) (w : World) : (Go.method 329 153 (.agg #[h]) "Implements").run Tryz.prog w = .ok (155, .agg #[h]) w := by kernel_rfl
theorem as_mAssignableTo (h : Value) (w : World) : (Go.method 329 153 (.agg #[h]) "AssignableTo").run Tryz.prog w = .ok (152, .agg #[h]) w := by kernel_rfl

set_option maxHeartbeats 4000000 in
theorem as_hit (k : Int) (t : Addr) (old : Value) (w : World) (hg : w.cell? ⟨0, 0, none⟩ = some (.iface 153 (.agg #[.pointer (some ⟨6, 32, none⟩)]))) (ht0 : w.cell? t = some old) (hf0 : w.frozen? t = false) :
    Calls Tryz.prog 52 #[.iface 60 (.int .i64 k), .iface 90 (.pointer (some t))] w fun ev w' => ev = .returned (.bool true) ∧ w' = ((((w.alloc (.cells #[.pointer (some t)] 90)).alloc (.cells #[.pointer (some ⟨6, 90, none⟩), .pointer (some ⟨w.heap.size, 0, none⟩), .int .u64 150] 132)).alloc (.cells #[.pointer (some ⟨6, 90, none⟩), .pointer (some ⟨w.heap.size, 0, none⟩), .int .u64 150] 132)).alloc (.cells #[.int .i64 k] 60)).setCell t (.int .i64 k) := by
  have h6 := @run_callFunc_extern Tryz.prog 78 _ (fun args => ReflectliteValue.unpack (args.getD 0 (.tuple #[]))) Tryz.func78 (by kernel_rfl) (by kernel_rfl) (by kernel_rfl) (by kernel_rfl)
  have h7 := @run_callFunc_extern Tryz.prog 79 _ (ReflectliteValue.methodAny (ReflectliteValue.valueError "reflectlite.Value.Type" 0) (fun t _ _ _ => ReflectliteType.toType t)) Tryz.func79 (by kernel_rfl) (by kernel_rfl) (by kernel_rfl) (by kernel_rfl)
  have h8 := @run_callFunc_extern Tryz.prog 80 _ (ReflectliteValue.method (ReflectliteValue.valueError "reflectlite.Value.IsNil" 0) ReflectliteValue.isNil) Tryz.func80 (by kernel_rfl) (by kernel_rfl) (by kernel_rfl) (by kernel_rfl)
  have h27 := @run_callFunc_extern Tryz.prog 143 _ (ReflectliteType.abiMethod fun t => do pure (.int .u8 (← Rtype.kind t))) Tryz.func143 (by kernel_rfl) (by kernel_rfl) (by kernel_rfl) (by kernel_rfl)
  have h37 := @run_callFunc_extern Tryz.prog 154 _ (ReflectliteType.method ReflectliteType.elem) Tryz.func154 (by kernel_rfl) (by kernel_rfl) (by kernel_rfl) (by kernel_rfl)
  have h38 := @run_callFunc_extern Tryz.prog 155 _ (ReflectliteType.relation "Implements" ReflectliteType.implements_) Tryz.func155 (by kernel_rfl) (by kernel_rfl) (by kernel_rfl) (by kernel_rfl)
  have h10 := @run_callFunc_extern Tryz.prog 94 _ ReflectliteType.typeOf Tryz.func94 (by kernel_rfl) (by kernel_rfl) (by kernel_rfl) (by kernel_rfl)
  have h35 := @run_callFunc_extern Tryz.prog 152 _ (ReflectliteType.relation "AssignableTo" ReflectliteType.assignableTo) Tryz.func152 (by kernel_rfl) (by kernel_rfl) (by kernel_rfl) (by kernel_rfl)
  have h11 := @run_callFunc_extern Tryz.prog 95 _ (ReflectliteValue.method (ReflectliteValue.valueError "reflectlite.Value.Elem" 0) ReflectliteValue.elem) Tryz.func95 (by kernel_rfl) (by kernel_rfl) (by kernel_rfl) (by kernel_rfl)
  have h12 := @run_callFunc_extern Tryz.prog 96 _ ReflectliteValue.set Tryz.func96 (by kernel_rfl) (by kernel_rfl) (by kernel_rfl) (by kernel_rfl)
  have tO := as_typeOf
  have mA := as_mAssignableTo
  have a25 := as_assignable
  have v25 := as_valueE
  have f6 := as_valueOf
  have f7 := as_type
  have mK := as_mKind
  have mE := as_mElem
  have mI := as_mImplements
  have k27 := as_kindP
  have k25 := as_kindE
  have e27 := as_elem
  have i25 := as_implements
  have n8 := as_isNil ⟨w.heap.size, 0, none⟩ t ((w.alloc (.cells #[.pointer (some t)] 90)).alloc (.cells #[.pointer (some ⟨6, 90, none⟩), .pointer (some ⟨w.heap.size, 0, none⟩), .int .u64 150] 132)) (by simp)
  have hlt : 0 < w.heap.size := by
    rcases Nat.lt_or_ge 0 w.heap.size with h | h
    · exact h
    · simp [World.cell?, Array.getElem?_eq_none h] at hg
  have hg2 : ((w.alloc (.cells #[.pointer (some t)] 90)).alloc (.cells #[.pointer (some ⟨6, 90, none⟩), .pointer (some ⟨w.heap.size, 0, none⟩), .int .u64 150] 132)).cell? ⟨0, 0, none⟩ = some (.iface 153 (.agg #[.pointer (some ⟨6, 32, none⟩)])) := by
    rw [World.cell?_alloc_lt _ _ ⟨0, 0, none⟩ (by show 0 < (w.alloc _).heap.size; rw [World.size_alloc]; omega), World.cell?_alloc_lt _ _ ⟨0, 0, none⟩ hlt]; exact hg
  have htl : t.block < w.heap.size := by
    rcases Nat.lt_or_ge t.block w.heap.size with h | h
    · exact h
    · simp [World.cell?, Array.getElem?_eq_none h] at ht0
  have el := as_elemV ⟨w.heap.size, 0, none⟩ t (((w.alloc (.cells #[.pointer (some t)] 90)).alloc (.cells #[.pointer (some ⟨6, 90, none⟩), .pointer (some ⟨w.heap.size, 0, none⟩), .int .u64 150] 132)).alloc (.cells #[.pointer (some ⟨6, 90, none⟩), .pointer (some ⟨w.heap.size, 0, none⟩), .int .u64 150] 132)) (by rw [World.cell?_alloc_lt _ _ ⟨w.heap.size, 0, none⟩ (by simp; omega)]; simp)
  have st := as_setE t ⟨w.heap.size + 1 + 1 + 1, 0, none⟩ k old ((((w.alloc (.cells #[.pointer (some t)] 90)).alloc (.cells #[.pointer (some ⟨6, 90, none⟩), .pointer (some ⟨w.heap.size, 0, none⟩), .int .u64 150] 132)).alloc (.cells #[.pointer (some ⟨6, 90, none⟩), .pointer (some ⟨w.heap.size, 0, none⟩), .int .u64 150] 132)).alloc (.cells #[.int .i64 k] 60))
    (by rw [World.cell?_alloc_at _ _ _ _ (by simp)]; rfl)
    (by rw [World.cell?_alloc_lt _ _ t (by simp; omega), World.cell?_alloc_lt _ _ t (by simp; omega), World.cell?_alloc_lt _ _ t (by simp; omega), World.cell?_alloc_lt _ _ t htl]; exact ht0)
    (by rw [World.frozen?_alloc_old _ _ t (by simp; omega), World.frozen?_alloc_old _ _ t (by simp; omega), World.frozen?_alloc_old _ _ t (by simp; omega), World.frozen?_alloc_old _ _ t (Nat.ne_of_lt htl)]; exact hf0)
  go_enter Tryz.func52, Tryz.ntmps52
  go_wp2
  refine wp_loop_rounds 1 ?_
  rw [rounds_succ]
  go_wp2
  go_ret
  exact ⟨rfl, rfl⟩

theorem num_none (w : World) :
    Calls Tryz.prog 18 #[.nilIface] w fun x w' => x = .returned (.int .i64 0) ∧ Below w.heap.size w w' := by
  have HB := (Below.refl w.heap.size w).alloc (Nat.le_refl _) (.cells #[.int .i64 0] 60)
  go_enter Tryz.func18, Tryz.ntmps18
  go_wp2
  go_ret
  exact ⟨rfl, HB⟩

set_option maxHeartbeats 1000000 in
theorem num_some (k : Int) (w : World) (hs : Std w) :
    Calls Tryz.prog 18 #[.iface 60 (.int .i64 k)] w fun x w' => x = .returned (.int .i64 k) ∧ Below w.heap.size w w' := by
  have hc := hs.typ
  have hz := hs.size
  have hg : (w.alloc (.cells #[.int .i64 0] 60)).cell? ⟨0, 0, none⟩ = some (.iface 153 (.agg #[.pointer (some ⟨6, 32, none⟩)])) := by
    rw [World.cell?_alloc_lt _ _ ⟨0, 0, none⟩ (by show 0 < w.heap.size; omega)]; exact hc
  have c1 := Lib.hid (as_hit k ⟨w.heap.size, 0, none⟩ (.int .i64 0) (w.alloc (.cells #[.int .i64 0] 60)) hg (by simp) (by simp))
  have HB : Below w.heap.size w (((((w.alloc (.cells #[.int .i64 0] 60)).alloc (.cells #[.pointer (some ⟨w.heap.size, 0, none⟩)] 90)).alloc (.cells #[.pointer (some ⟨6, 90, none⟩), .pointer (some ⟨(w.alloc (.cells #[.int .i64 0] 60)).heap.size, 0, none⟩), .int .u64 150] 132)).alloc (.cells #[.pointer (some ⟨6, 90, none⟩), .pointer (some ⟨(w.alloc (.cells #[.int .i64 0] 60)).heap.size, 0, none⟩), .int .u64 150] 132)).alloc (.cells #[.int .i64 k] 60) |>.setCell ⟨w.heap.size, 0, none⟩ (.int .i64 k)) :=
    ((((((Below.refl _ _).alloc (Nat.le_refl _) _).alloc (by simp) _).alloc (by simp; omega) _).alloc (by simp; omega) _).alloc (by simp; omega) _).setCell (Nat.le_refl _) _
  have hcell : ∀ W : World, (((((w.alloc (.cells #[.int .i64 0] 60)).alloc (.cells #[.pointer (some ⟨w.heap.size, 0, none⟩)] 90)).alloc (.cells #[.pointer (some ⟨6, 90, none⟩), .pointer (some ⟨(w.alloc (.cells #[.int .i64 0] 60)).heap.size, 0, none⟩), .int .u64 150] 132)).alloc (.cells #[.pointer (some ⟨6, 90, none⟩), .pointer (some ⟨(w.alloc (.cells #[.int .i64 0] 60)).heap.size, 0, none⟩), .int .u64 150] 132)).alloc (.cells #[.int .i64 k] 60) |>.setCell ⟨w.heap.size, 0, none⟩ (.int .i64 k)) = W → W.cell? ⟨w.heap.size, 0, none⟩ = some (.int .i64 k) := by
    rintro W rfl
    refine World.cell?_setCell_same _ _ _ (u := .int .i64 0) ?_
    rw [World.cell?_alloc_lt _ _ ⟨w.heap.size, 0, none⟩ (by simp; omega), World.cell?_alloc_lt _ _ ⟨w.heap.size, 0, none⟩ (by simp; omega), World.cell?_alloc_lt _ _ ⟨w.heap.size, 0, none⟩ (by simp; omega), World.cell?_alloc_lt _ _ ⟨w.heap.size, 0, none⟩ (by simp)]
    simp
  go_enter Tryz.func18, Tryz.ntmps18
  go_wp2_with fail
  refine c1.out.mono ?_
  rintro x W ⟨rfl, hW⟩
  have hcW := hcell W hW.symm
  rw [← hW] at HB
  clear hW hcell hg hc
  go_wp2
  go_ret
  exact ⟨rfl, HB⟩

/-- The number of an error, or of none. -/
theorem num_any (k : Nat) (w : World) (hs : Std w) :
    Calls Tryz.prog 18 #[ev k] w fun x w' => x = .returned (.int .i64 (k : Int)) ∧ Below w.heap.size w w' := by
  by_cases hk : k = 0
  · subst hk
    exact num_none w
  · rw [show ev k = .iface 60 (.int .i64 (k : Int)) from by unfold ev; rw [if_neg hk]]
    exact num_some k w hs

end Go.Proofs.YtfblgkcipnkhaaaGreatDoor.pk

/-
  What the package-level variables hold that the library's calls of package pair read.
-/
namespace Go.Proofs.YtfblgkcipnkhaaaGreatDoor.pk
open Go Go.RowKit

structure StdP (w : World) : Prop where
  std : Std w
  tab : Lib.TabIs Tryz.prog w "internal/strconv.uint64pow10" .u64 Lib.pow10Tab
  syn : ∃ tp p, w.var? Tryz.prog "strconv.ErrSyntax" = some #[.iface tp p]
  rng : ∃ tp p, w.var? Tryz.prog "strconv.ErrRange" = some #[.iface tp p]

theorem gTab : Tryz.prog.globalNamed "internal/strconv.uint64pow10" = some 1 := by kernel_rfl
theorem gSyn : Tryz.prog.globalNamed "strconv.ErrSyntax" = some 4 := by kernel_rfl
theorem gRng : Tryz.prog.globalNamed "strconv.ErrRange" = some 5 := by kernel_rfl


theorem StdP.below {w w' : World} {B : Nat} (h : StdP w) (hB : 6 ≤ B) (hb : Below B w w') : StdP w' := by
  obtain ⟨h1, h2, ⟨tp, p, h3⟩, ⟨tq, q, h4⟩⟩ := h
  exact ⟨h1.below hB hb, var?_below hb gTab (by omega) h2, ⟨tp, p, var?_below hb gSyn (by omega) h3⟩, ⟨tq, q, var?_below hb gRng (by omega) h4⟩⟩
theorem StdP.more {w w' : World} (h : StdP w) (hb : Below w.heap.size w w') : StdP w' := h.below h.std.size hb

end Go.Proofs.YtfblgkcipnkhaaaGreatDoor.pk
