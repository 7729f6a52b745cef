/-
  Texts of the proof, joined: RdU, RdB, RdC, RdR, RdS, RdE, RdF, MayM, GivS, RdG, RdH, RdI.
-/
import Derived.Test.YtfblgkcipnkhaaaGreatDoorJg
import Derived.Test.YtfblgkcipnkhaaaGreatDoorLayM

/-
  The document's own reader: a number; what is left at the end.
-/
namespace Go.Proofs.YtfblgkcipnkhaaaGreatDoor.pk
open Go Go.RowKit
set_option maxRecDepth 100000

theorem headK_ne {l : UInt8} {bs : List UInt8} (h : headK l bs ≠ 0) : ∀ e, hd l e bs = (headK l bs, 0, []) := by
  intro e
  cases bs with
  | nil => rfl
  | cons c r =>
    by_cases hc : c = l
    · simp [headK, hc] at h
    · rw [hd_cons, if_neg hc]; simp [headK, hc]
theorem headK_eq {l : UInt8} {bs : List UInt8} (h : headK l bs = 0) : ∃ r, bs = l :: r := by
  cases bs with
  | nil => simp [headK] at h
  | cons c r =>
    by_cases hc : c = l
    · exact ⟨r, by rw [hc]⟩
    · simp [headK, hc] at h

theorem ReadUint_any (A : Option Addr) (n c k : Nat) (most : Nat) (bs : List UInt8) (w : World) {B : Nat} (hB : B ≤ w.heap.size) (h : Sl w B (.slice A n c) bs) :
    Calls Tryz.prog 66 #[.agg #[.slice A n c, .int .i64 (k : Int)], .int .u64 (most : Int)] w fun x w' =>
      ∃ A' c', x = .returned (.tuple #[.agg #[.slice A' (rUint most (bs, k)).1.1.length c', .int .i64 ((rUint most (bs, k)).1.2 : Int)], .int .u64 ((rUint most (bs, k)).2 : Int)]) ∧ Sl w' B (.slice A' (rUint most (bs, k)).1.1.length c') (rUint most (bs, k)).1.1 ∧ Below w.heap.size w w' := by
  obtain ⟨hn, _, _⟩ := h.len
  by_cases hk : (if k = 0 then headK 110 bs else k) = 0
  · by_cases h0 : k = 0
    · subst h0
      rw [if_pos rfl] at hk
      obtain ⟨r, rfl⟩ := headK_eq hk
      rcases hr : scan 59 [] r with ⟨k1, m, rest⟩
      have hrd : rdUint most (110 :: r) = if k1 = 0 then (if most < m then (4, 0, []) else (0, m, rest)) else (k1, 0, []) := by
        unfold rdUint
        rw [hd_cons, if_pos rfl, hr]
        cases k1 with
        | zero => rfl
        | succ k => rfl
      by_cases hk1 : k1 = 0
      · subst hk1
        rw [if_pos rfl] at hrd
        by_cases hm : most < m
        · rw [if_pos hm] at hrd
          have e : rUint most (110 :: r, 0) = ((110 :: r, 4), 0) := by simp [rUint, hrd]
          rw [e]
          refine (ReadUint_dig A n c most r 0 m rest w hB h hr 4 (Or.inr ⟨rfl, hm, rfl⟩)).mono ?_
          rintro x w' ⟨rfl, hb⟩
          subst hn
          exact ⟨A, c, rfl, h.below (hb.mono hB), hb⟩
        · rw [if_neg hm] at hrd
          have e : rUint most (110 :: r, 0) = ((rest, 0), m) := by simp [rUint, hrd]
          rw [e]
          exact ReadUint_ok A n c most r m rest w hB h hr (by omega)
      · rw [if_neg hk1] at hrd
        have e : rUint most (110 :: r, 0) = ((110 :: r, k1), 0) := by simp [rUint, hrd, hk1]
        rw [e]
        refine (ReadUint_dig A n c most r k1 m rest w hB h hr k1 (Or.inl ⟨hk1, rfl⟩)).mono ?_
        rintro x w' ⟨rfl, hb⟩
        subst hn
        exact ⟨A, c, rfl, h.below (hb.mono hB), hb⟩
    · rw [if_neg h0] at hk
      exact absurd hk h0
  · have e : rUint most (bs, k) = ((bs, if k = 0 then headK 110 bs else k), 0) := by
      by_cases h0 : k = 0
      · subst h0
        rw [if_pos rfl] at hk ⊢
        have hh := headK_ne hk 59
        obtain ⟨j, hj⟩ : ∃ j, headK 110 bs = j + 1 := ⟨headK 110 bs - 1, by omega⟩
        rw [hj] at hh ⊢
        simp [rUint, rdUint, hh]
      · rw [if_neg h0]; simp [rUint, h0]
    rw [e]
    refine (ReadUint_err A n c k most bs _ w hB h rfl hk).mono ?_
    rintro x w' ⟨rfl, hb⟩
    subst hn
    exact ⟨A, c, rfl, h.below (hb.mono hB), hb⟩

theorem RefDone_s (A : Option Addr) (n c k : Nat) (bs : List UInt8) (hn : n = bs.length) (w : World) (d : Nat) (hd : d = doneR (bs, k)) :
    Calls Tryz.prog 37 #[.agg #[.slice A n c, .int .i64 (k : Int)]] w fun x w' => x = .returned (.int .i64 (d : Int)) ∧ Below w.heap.size w w' := by
  have h := RefDone_any A n c k w
  have e : (if k = 0 then (if n = 0 then 0 else 3) else k) = d := by
    rw [hd]
    unfold doneR
    by_cases h0 : k = 0
    · subst h0
      by_cases h1 : n = 0
      · rw [if_pos rfl, if_pos h1, if_neg (by rintro ⟨_, h⟩; simp only at h; omega)]
      · rw [if_pos rfl, if_neg h1, if_pos ⟨rfl, by simp only; omega⟩]
    · rw [if_neg h0, if_neg (by rintro ⟨h, _⟩; exact h0 h)]
  rw [e] at h
  exact h
theorem ReadUint_s (A : Option Addr) (n c k most : Nat) (bs : List UInt8) (w : World) (B : Nat) (hB : B ≤ w.heap.size) (h : Sl w B (.slice A n c) bs) (s1 : List UInt8) (k1 v n1 : Nat) (hr : rUint most (bs, k) = ((s1, k1), v)) (hn : n1 = s1.length) :
    Calls Tryz.prog 66 #[.agg #[.slice A n c, .int .i64 (k : Int)], .int .u64 (most : Int)] w fun x w' =>
      ∃ A' c', x = .returned (.tuple #[.agg #[.slice A' n1 c', .int .i64 (k1 : Int)], .int .u64 (v : Int)]) ∧ Sl w' B (.slice A' n1 c') s1 ∧ Below w.heap.size w w' := by
  have := ReadUint_any A n c k most bs w hB h
  rw [hr] at this
  subst hn
  exact this

end Go.Proofs.YtfblgkcipnkhaaaGreatDoor.pk

/-
  The document's own reader: a truth.
-/
namespace Go.Proofs.YtfblgkcipnkhaaaGreatDoor.pk
open Go Go.RowKit
set_option maxRecDepth 100000

theorem bool_stop (A : Option Addr) (n c k : Nat) (w : World) (hk : k ≠ 0) :
    Calls Tryz.prog 33 #[.agg #[.slice A n c, .int .i64 (k : Int)]] w fun x w' => x = .returned (.tuple #[.agg #[.slice A n c, .int .i64 (k : Int)], .bool false]) ∧ Below w.heap.size w w' := by
  have hz : ((k : Int) != 0) = true := by simp; omega
  go_enter Tryz.func33, Tryz.ntmps33
  go_wp2
  exact bodyPost_ret (v := .tuple #[.agg #[.slice A n c, .int .i64 (k : Int)], .bool false]) (by simp [results, Tryz.results33, go_sem]) rfl ⟨rfl, ((Below.refl _ _).alloc (Nat.le_refl _) _).alloc (by simp) _⟩

theorem bool_end (A : Option Addr) (c : Nat) (w : World) :
    Calls Tryz.prog 33 #[.agg #[.slice A 0 c, .int .i64 0]] w fun x w' => x = .returned (.tuple #[.agg #[.slice A 0 c, .int .i64 12], .bool false]) ∧ Below w.heap.size w w' := by
  obtain ⟨w0, hw0⟩ : ∃ w0, w0 = (w.alloc (Obj.cells #[Value.slice A 0 c, Value.int IntKind.i64 0] 63)).alloc (Obj.cells #[Value.slice none 0 0, Value.int IntKind.i64 0] 63) := ⟨_, rfl⟩
  have hb0 : Below w.heap.size w w0 := by rw [hw0]; exact ((Below.refl _ _).alloc (Nat.le_refl _) _).alloc (by simp) _
  have hY : RB w0 (w.heap.size + 1) (.slice none 0 0) (.int .i64 0) := by rw [hw0]; exact heap_alloc2_new _ _ _
  have H := Lib.hid (fail_any A 0 c 0 12 w0)
  rw [if_pos rfl] at H
  go_enter Tryz.func33, Tryz.ntmps33
  go_wp2_with fail
  rw [← hw0]
  refine H.out.mono ?_
  rintro x w1 ⟨rfl, hb1⟩
  obtain ⟨y0, y1, yf0, yf1⟩ := (hY.below hb1).facts
  have HB1 := Lib.hid (hb0.trans (hb1.mono hb0.size))
  clear hw0 hb0 hY hb1
  go_wp2
  exact bodyPost_ret (v := .tuple #[.agg #[.slice A 0 c, .int .i64 12], .bool false]) (by simp [results, Tryz.results33, go_sem, y0, y1]) rfl ⟨rfl, (HB1.out.setCell (by simp) _).setCell (by simp) _⟩

theorem bool_form (A : Option Addr) (n c : Nat) (d : UInt8) (r : List UInt8) (w : World) {B : Nat} (hB : B ≤ w.heap.size) (h : Sl w B (.slice A n c) (d :: r)) (h1 : d ≠ 121) (h2 : d ≠ 122) :
    Calls Tryz.prog 33 #[.agg #[.slice A n c, .int .i64 0]] w fun x w' => x = .returned (.tuple #[.agg #[.slice A n c, .int .i64 3], .bool false]) ∧ Below w.heap.size w w' := by
  obtain ⟨b, off, rfl, hb, rfl, hn, hc, hcell⟩ := h.head
  have hb' : b < w.heap.size := by omega
  have i0 : ((r.length : Int) + 1 == 0) = false := by simp; omega
  have i1 : (1 : Int) ≤ (r.length : Int) + 1 := by omega
  have x1 : (d.toNat : Int) ≠ 121 := fun e => h1 (UInt8.toNat_inj.1 (by show d.toNat = 121; omega))
  have x2 : (d.toNat : Int) ≠ 122 := fun e => h2 (UInt8.toNat_inj.1 (by show d.toNat = 122; omega))
  have y1 : ((d.toNat : Int) != 121) = true := by simpa using x1
  have y2 : ((d.toNat : Int) != 122) = true := by simpa using x2
  obtain ⟨w0, hw0⟩ : ∃ w0, w0 = (w.alloc (Obj.cells #[Value.slice (some ⟨b, off, none⟩) (r.length + 1) c, Value.int IntKind.i64 0] 63)).alloc (Obj.cells #[Value.slice none 0 0, Value.int IntKind.i64 0] 63) := ⟨_, rfl⟩
  have hb0 : Below w.heap.size w w0 := by rw [hw0]; exact ((Below.refl _ _).alloc (Nat.le_refl _) _).alloc (by simp) _
  have hY : RB w0 (w.heap.size + 1) (.slice none 0 0) (.int .i64 0) := by rw [hw0]; exact heap_alloc2_new _ _ _
  have H := Lib.hid (fail_any (some ⟨b, off, none⟩) (r.length + 1) c 0 3 w0)
  rw [if_pos rfl] at H
  clear h h1 h2 x1 x2
  go_enter Tryz.func33, Tryz.ntmps33
  go_wp2_with fail
  rw [← hw0]
  refine H.out.mono ?_
  rintro x w1 ⟨rfl, hb1⟩
  obtain ⟨z0, z1, zf0, zf1⟩ := (hY.below hb1).facts
  have HB1 := Lib.hid (hb0.trans (hb1.mono hb0.size))
  clear hw0 hb0 hY hb1
  go_wp2
  exact bodyPost_ret (v := .tuple #[.agg #[.slice (some ⟨b, off, none⟩) (r.length + 1) c, .int .i64 3], .bool false]) (by simp [results, Tryz.results33, go_sem, z0, z1]) rfl ⟨rfl, (HB1.out.setCell (by simp) _).setCell (by simp) _⟩

theorem bool_ok (A : Option Addr) (n c : Nat) (is : Bool) (r : List UInt8) (w : World) {B : Nat} (hB : B ≤ w.heap.size) (h : Sl w B (.slice A n c) ((if is then 121 else 122) :: r)) (m : Nat) (hm : m = r.length) :
    Calls Tryz.prog 33 #[.agg #[.slice A n c, .int .i64 0]] w fun x w' => ∃ A' c', x = .returned (.tuple #[.agg #[.slice A' m c', .int .i64 0], .bool is]) ∧ Sl w' B (.slice A' m c') r ∧ Below w.heap.size w w' := by
  obtain ⟨b, off, rfl, hb, rfl, hn, hc, hcell⟩ := h.head
  subst hm
  have hb' : b < w.heap.size := by omega
  have i0 : ((r.length : Int) + 1 == 0) = false := by simp; omega
  have i1 : (1 : Int) ≤ (r.length : Int) + 1 := by omega
  have i2 : (r.length : Int) + 1 ≤ (c : Int) := by omega
  have hbf : ∀ v, Below w.heap.size w ((w.alloc (Obj.cells #[v, Value.int IntKind.i64 0] 63)).alloc (Obj.cells #[v, Value.int IntKind.i64 0] 63)) := fun v => ((Below.refl _ _).alloc (Nat.le_refl _) _).alloc (by simp) _
  by_cases hc1 : c = 1
  · subst hc1
    have HS := Lib.hid h.tail_one
    have hr0 : r.length = 0 := by omega
    cases is with
    | true =>
      have hcell' : w.cell? ⟨b, off, none⟩ = some (.int .u8 121) := hcell
      clear h hcell
      go_enter Tryz.func33, Tryz.ntmps33
      go_wp2
      exact bodyPost_ret (v := .tuple #[.agg #[.slice (some ⟨b, off, none⟩) r.length 0, .int .i64 0], .bool true]) (by simp [results, Tryz.results33, go_sem, hr0]) rfl ⟨_, _, rfl, HS.out.below ((hbf _).mono hB), hbf _⟩
    | false =>
      have hcell' : w.cell? ⟨b, off, none⟩ = some (.int .u8 122) := hcell
      clear h hcell
      go_enter Tryz.func33, Tryz.ntmps33
      go_wp2
      exact bodyPost_ret (v := .tuple #[.agg #[.slice (some ⟨b, off, none⟩) r.length 0, .int .i64 0], .bool false]) (by simp [results, Tryz.results33, go_sem, hr0]) rfl ⟨_, _, rfl, HS.out.below ((hbf _).mono hB), hbf _⟩
  · have HS := Lib.hid (h.tail_more hc1)
    cases is with
    | true =>
      have hcell' : w.cell? ⟨b, off, none⟩ = some (.int .u8 121) := hcell
      clear h hcell
      go_enter Tryz.func33, Tryz.ntmps33
      go_wp2
      exact bodyPost_ret (v := .tuple #[.agg #[.slice (some ⟨b, off + 1, none⟩) r.length (c - 1), .int .i64 0], .bool true]) (by simp [results, Tryz.results33, go_sem]) rfl ⟨_, _, rfl, HS.out.below ((hbf _).mono hB), hbf _⟩
    | false =>
      have hcell' : w.cell? ⟨b, off, none⟩ = some (.int .u8 122) := hcell
      clear h hcell
      go_enter Tryz.func33, Tryz.ntmps33
      go_wp2
      exact bodyPost_ret (v := .tuple #[.agg #[.slice (some ⟨b, off + 1, none⟩) r.length (c - 1), .int .i64 0], .bool false]) (by simp [results, Tryz.results33, go_sem]) rfl ⟨_, _, rfl, HS.out.below ((hbf _).mono hB), hbf _⟩

theorem ReadBool_s (A : Option Addr) (n c k : Nat) (bs : List UInt8) (w : World) (B : Nat) (hB : B ≤ w.heap.size) (h : Sl w B (.slice A n c) bs) (s1 : List UInt8) (k1 n1 : Nat) (v : Bool) (hr : rBool (bs, k) = ((s1, k1), v)) (hn : n1 = s1.length) :
    Calls Tryz.prog 33 #[.agg #[.slice A n c, .int .i64 (k : Int)]] w fun x w' =>
      ∃ A' c', x = .returned (.tuple #[.agg #[.slice A' n1 c', .int .i64 (k1 : Int)], .bool v]) ∧ Sl w' B (.slice A' n1 c') s1 ∧ Below w.heap.size w w' := by
  obtain ⟨hnl, -, -⟩ := h.len
  by_cases hk : k = 0
  · subst hk
    cases bs with
    | nil =>
      have e : rBool ([], 0) = (([], 12), false) := rfl
      rw [e] at hr
      simp only [Prod.mk.injEq] at hr
      obtain ⟨⟨rfl, rfl⟩, rfl⟩ := hr
      subst hnl
      subst hn
      exact (bool_end A c w).mono fun x w' ⟨e, hb⟩ => ⟨A, c, e, h.below (hb.mono hB), hb⟩
    | cons d r =>
      by_cases h1 : d = 121
      · subst h1
        have e : rBool (121 :: r, 0) = ((r, 0), true) := rfl
        rw [e] at hr
        simp only [Prod.mk.injEq] at hr
        obtain ⟨⟨rfl, rfl⟩, rfl⟩ := hr
        exact bool_ok A n c true r w hB h n1 hn
      · by_cases h2 : d = 122
        · subst h2
          have e : rBool (122 :: r, 0) = ((r, 0), false) := rfl
          rw [e] at hr
          simp only [Prod.mk.injEq] at hr
          obtain ⟨⟨rfl, rfl⟩, rfl⟩ := hr
          exact bool_ok A n c false r w hB h n1 hn
        · have e : rBool (d :: r, 0) = ((d :: r, 3), false) := by unfold rBool; simp [rdBool_cons, h1, h2]
          rw [e] at hr
          simp only [Prod.mk.injEq] at hr
          obtain ⟨⟨rfl, rfl⟩, rfl⟩ := hr
          rw [← hnl] at hn
          subst hn
          exact (bool_form A n1 c d r w hB h h1 h2).mono fun x w' ⟨e, hb⟩ => ⟨A, c, e, h.below (hb.mono hB), hb⟩
  · have e : rBool (bs, k) = ((bs, k), false) := by unfold rBool; rw [if_neg hk]
    rw [e] at hr
    simp only [Prod.mk.injEq] at hr
    obtain ⟨⟨rfl, rfl⟩, rfl⟩ := hr
    rw [← hnl] at hn
    subst hn
    exact (bool_stop A n1 c k w hk).mono fun x w' ⟨e, hb⟩ => ⟨A, c, e, h.below (hb.mono hB), hb⟩

end Go.Proofs.YtfblgkcipnkhaaaGreatDoor.pk

/-
  The document's own reader: bytes; a count; a message's number.
-/
namespace Go.Proofs.YtfblgkcipnkhaaaGreatDoor.pk
open Go Go.RowKit
set_option maxRecDepth 100000

theorem set4 {B : Nat} {a W : World} (h : Below B a W) (g : Nat) (hg : B ≤ g) (u v : Value) : Below B a ((((W.setCell ⟨g, 0, none⟩ u).setCell ⟨g, 1, none⟩ v).setCell ⟨g + 1, 0, none⟩ u).setCell ⟨g + 1, 1, none⟩ v) :=
  (((h.setCell (p := ⟨g, 0, none⟩) hg u).setCell (p := ⟨g, 1, none⟩) hg v).setCell (p := ⟨g + 1, 0, none⟩) (by simp only; omega) u).setCell (p := ⟨g + 1, 1, none⟩) (by simp only; omega) v
set_option maxHeartbeats 1000000 in
theorem number_s (A : Option Addr) (n c k : Nat) (bs : List UInt8) (w : World) (B : Nat) (hB : B ≤ w.heap.size) (h : Sl w B (.slice A n c) bs) (s1 : List UInt8) (k1 v n1 : Nat) (hr : rUint 1099511627776 (bs, k) = ((s1, k1), v)) (hn : n1 = s1.length) :
    Calls Tryz.prog 32 #[.agg #[.slice A n c, .int .i64 (k : Int)]] w fun x w' =>
      ∃ A' c', x = .returned (.tuple #[.agg #[.slice A' n1 c', .int .i64 (k1 : Int)], .int .i64 (v : Int)]) ∧ Sl w' B (.slice A' n1 c') s1 ∧ Below w.heap.size w w' := by
  obtain ⟨w0, hw0⟩ : ∃ w0, w0 = (w.alloc (Obj.cells #[Value.slice A n c, Value.int IntKind.i64 (k : Int)] 63)).alloc (Obj.cells #[Value.slice none 0 0, Value.int IntKind.i64 0] 63) := ⟨_, rfl⟩
  have hb0 : Below w.heap.size w w0 := by rw [hw0]; exact ((Below.refl _ _).alloc (Nat.le_refl _) _).alloc (by simp) _
  have hX : RB w0 w.heap.size (.slice A n c) (.int .i64 (k : Int)) := by rw [hw0]; exact heap_alloc2_old _ _ _
  have hY : RB w0 (w.heap.size + 1) (.slice none 0 0) (.int .i64 0) := by rw [hw0]; exact heap_alloc2_new _ _ _
  have H := Lib.hid (ReadUint_s A n c k 1099511627776 bs w0 B (Nat.le_trans hB hb0.size) (h.below (hb0.mono hB)) s1 k1 v n1 hr hn)
  have hv : v ≤ 1099511627776 := by
    by_cases h0 : k1 = 0
    · have := (rUint_inv (most := 1099511627776) (s := (bs, k)) (by rw [hr]; exact h0)).2.2.1
      rw [hr] at this
      exact this
    · have : v = 0 := by
        unfold rUint at hr
        by_cases h2 : k = 0
        · rw [if_pos h2] at hr
          by_cases h3 : (rdUint 1099511627776 bs).1 = 0
          · rw [if_pos h3] at hr
            simp only [Prod.mk.injEq] at hr
            exact absurd hr.1.2.symm h0
          · rw [if_neg h3] at hr
            simp only [Prod.mk.injEq] at hr
            exact hr.2.symm
        · rw [if_neg h2] at hr
          simp only [Prod.mk.injEq] at hr
          exact hr.2.symm
      omega
  have hw : IntKind.i64.wrap (v : Int) = (v : Int) := IntWalk.i64_in _ (by omega)
  have HK := Lib.hid hn
  clear h hr hn
  go_enter Tryz.func32, Tryz.ntmps32
  go_wp2_with fail
  rw [← hw0]
  refine H.out.mono ?_
  rintro x w1 ⟨A1, c1, rfl, hS, hb1⟩
  obtain ⟨x0, x1, xf0, xf1⟩ := (hX.below hb1).facts
  obtain ⟨y0, y1, yf0, yf1⟩ := (hY.below hb1).facts
  have HB1 := Lib.hid (And.intro (hb0.trans (hb1.mono hb0.size)) hS)
  clear hw0 hb0 hX hY hb1 hS
  go_wp2
  have hbf := set4 HB1.out.1 w.heap.size (Nat.le_refl _) (.slice A1 n1 c1) (.int .i64 (k1 : Int))
  have hbg := set4 (Below.refl B w1) w.heap.size hB (.slice A1 n1 c1) (.int .i64 (k1 : Int))
  exact bodyPost_ret (v := .tuple #[.agg #[.slice A1 n1 c1, .int .i64 (k1 : Int)], .int .i64 (v : Int)]) (by simp [results, Tryz.results32, go_sem, y0, y1]) rfl ⟨_, _, rfl, HB1.out.2.below hbg, hbf⟩

/-- The boxes of a reader's call, behind another one. -/
theorem box3 {B : Nat} {w w0 w1 : World} {g : Nat} {X0 X1 Y0 Y1 : Value} (u v : Value) (hg : B ≤ g) (hsz : g + 1 < w0.heap.size) (hb0 : Below B w w0) (hX : RB w0 g X0 X1) (hY : RB w0 (g + 1) Y0 Y1) (hb1 : Below w0.heap.size w0 w1) :
    ∃ W q, W = w1.alloc (Obj.cells #[u, v] 63) ∧ q = w1.heap.size ∧ g + 1 < q ∧ Below B w W ∧ RB W g X0 X1 ∧ RB W (g + 1) Y0 Y1 ∧ RB W q u v := by
  have hs1 := hb1.size
  have hbl := below_alloc w1 (Obj.cells #[u, v] 63)
  refine ⟨_, _, rfl, rfl, by omega, (hb0.trans (hb1.mono (Nat.le_trans (by omega) (Nat.le_refl _)))).trans (hbl.mono (by omega)), ?_, ?_, heap_alloc_new w1 _⟩
  · exact (hX.below hb1).below hbl
  · exact (hY.below hb1).below hbl

set_option maxHeartbeats 2000000 in
theorem ReadCount_s (A : Option Addr) (n c k most : Nat) (hmo : most ≤ 1000000) (bs : List UInt8) (w : World) (B : Nat) (hB : B ≤ w.heap.size) (h : Sl w B (.slice A n c) bs) (s1 : List UInt8) (k1 v n1 : Nat) (hr : rCount most (bs, k) = ((s1, k1), v)) (hn : n1 = s1.length) :
    Calls Tryz.prog 35 #[.agg #[.slice A n c, .int .i64 (k : Int)], .int .i64 (most : Int)] w fun x w' =>
      ∃ A' c', x = .returned (.tuple #[.agg #[.slice A' n1 c', .int .i64 (k1 : Int)], .int .i64 (v : Int)]) ∧ Sl w' B (.slice A' n1 c') s1 ∧ Below w.heap.size w w' := by
  obtain ⟨hnl, -, -⟩ := h.len
  obtain ⟨w0, hw0⟩ : ∃ w0, w0 = (w.alloc (Obj.cells #[Value.slice A n c, Value.int IntKind.i64 (k : Int)] 63)).alloc (Obj.cells #[Value.slice none 0 0, Value.int IntKind.i64 0] 63) := ⟨_, rfl⟩
  have hb0 : Below w.heap.size w w0 := by rw [hw0]; exact ((Below.refl _ _).alloc (Nat.le_refl _) _).alloc (by simp) _
  have hX : RB w0 w.heap.size (.slice A n c) (.int .i64 (k : Int)) := by rw [hw0]; exact heap_alloc2_old _ _ _
  have hY : RB w0 (w.heap.size + 1) (.slice none 0 0) (.int .i64 0) := by rw [hw0]; exact heap_alloc2_new _ _ _
  have hsz : w.heap.size + 1 < w0.heap.size := by rw [hw0]; simp
  rcases hu : rUint most (bs, k) with ⟨⟨t1, q1⟩, u⟩
  obtain ⟨nt, hnt⟩ : ∃ nt, nt = t1.length := ⟨_, rfl⟩
  have H := Lib.hid (ReadUint_s A n c k most bs w0 B (Nat.le_trans hB hb0.size) (h.below (hb0.mono hB)) t1 q1 u nt hu hnt)
  have hwm : IntKind.u64.wrap (most : Int) = (most : Int) := by rw [IntKind.wrap_u64]; omega
  have HK := Lib.hid (And.intro hb0 (And.intro hX (And.intro hY (And.intro hsz (And.intro hB h)))))
  have m0 : ¬ (most : Int) < 0 := by omega
  have hcase : (q1 ≠ 0 ∧ s1 = bs ∧ k1 = q1 ∧ v = 0 ∧ (k = 0 ∨ k = q1)) ∨ (q1 = 0 ∧ k = 0 ∧ nt < u ∧ s1 = bs ∧ k1 = 2 ∧ v = 0 ∧ u < 18446744073709551616) ∨ (q1 = 0 ∧ ¬ nt < u ∧ s1 = t1 ∧ k1 = 0 ∧ v = u ∧ u ≤ most) := by
    unfold rCount at hr
    by_cases hk : k = 0
    · subst hk
      unfold rUint at hu
      rw [if_pos rfl] at hr hu
      by_cases h1 : (rdUint most bs).1 = 0
      · rw [if_pos h1] at hu
        simp only [Prod.mk.injEq] at hu
        obtain ⟨⟨e1, e2⟩, e3⟩ := hu
        rw [if_neg (fun e => e h1)] at hr
        have e4 : (rdUint most (bs, 0).fst).snd.snd = t1 := e1
        have e5 : (rdUint most (bs, 0).fst).snd.fst = u := e3
        have e6 := (rdUint_inv (most := most) (l := bs) (n := u) (r := t1) (by rw [← e1, ← e3, ← h1])).2
        rw [e4, e5] at hr
        by_cases h2 : t1.length < u
        · rw [if_pos h2] at hr
          simp only [Prod.mk.injEq] at hr
          exact Or.inr (Or.inl ⟨e2.symm, rfl, by omega, hr.1.1.symm, hr.1.2.symm, hr.2.symm, e6.2⟩)
        · rw [if_neg h2] at hr
          simp only [Prod.mk.injEq] at hr
          exact Or.inr (Or.inr ⟨e2.symm, by omega, hr.1.1.symm, hr.1.2.symm, hr.2.symm, e6.1⟩)
      · rw [if_neg h1] at hu
        simp only [Prod.mk.injEq] at hu
        obtain ⟨⟨e1, e2⟩, e3⟩ := hu
        rw [if_pos h1] at hr
        simp only [Prod.mk.injEq] at hr
        exact Or.inl ⟨by rw [← e2]; exact h1, hr.1.1.symm, by rw [← hr.1.2]; exact e2, hr.2.symm, Or.inl rfl⟩
    · rw [if_neg hk] at hr
      unfold rUint at hu
      rw [if_neg hk] at hu
      simp only [Prod.mk.injEq] at hr hu
      exact Or.inl ⟨by rw [← hu.1.2]; exact hk, hr.1.1.symm, by rw [← hr.1.2]; exact hu.1.2, hr.2.symm, Or.inr hu.1.2⟩
  clear h hr hu hb0 hX hY hsz
  rcases hcase with ⟨c1, rfl, rfl, rfl, c2⟩ | ⟨rfl, rfl, c2, rfl, rfl, rfl, c3⟩ | ⟨rfl, c2, rfl, rfl, rfl, c3⟩
  · have hz : ((k1 : Int) != 0) = true := by simp; omega
    have HF := Lib.hid fun W => fail_any A n c k k1 W
    have hfe : (if k = 0 then k1 else k) = k1 := by
      rcases c2 with c2 | c2
      · rw [if_pos c2]
      · rw [c2]; split <;> rfl
    rw [hfe] at HF
    have HN := Lib.hid (And.intro hn hnl)
    clear c1 c2 hfe hn hnl hnt
    go_enter Tryz.func35, Tryz.ntmps35
    go_wp2_with fail
    rw [← hw0]
    refine H.out.mono ?_
    rintro x w1 ⟨A1, c1, rfl, hS, hb1⟩
    obtain ⟨W, q, hW, hq, hgq, hbW, hXW, hYW, hZW⟩ := box3 (.slice A1 nt c1) (.int .i64 (k1 : Int)) (Nat.le_refl _) HK.out.2.2.2.1 HK.out.1 HK.out.2.1 HK.out.2.2.1 hb1
    go_upto_region 4 with fail
    rw [← hW, ← hq]
    obtain ⟨x0, x1, xf0, xf1⟩ := hXW.facts
    obtain ⟨z0, z1, zf0, zf1⟩ := hZW.facts
    have HW := Lib.hid (And.intro hbW (And.intro hYW hW))
    clear hS hb1 hW hbW hXW hYW hZW hw0 hq hgq
    go_wp2_with (go_at_call 67; go_must (refine (HF.out _).mono ?_; rintro x w3 ⟨rfl, hb3⟩; obtain ⟨y0, y1, yf0, yf1⟩ := (HW.out.2.1.below hb3).facts; have HB3 := Lib.hid (HW.out.1.trans (hb3.mono HW.out.1.size)); clear hb3))
    have hbf := (HB3.out.setCell (p := ⟨w.heap.size + 1, 0, none⟩) (by simp) (.slice A n c)).setCell (p := ⟨w.heap.size + 1, 1, none⟩) (by simp) (.int .i64 (k1 : Int))
    have hn' := HN.out.1.trans HN.out.2.symm
    subst hn'
    exact bodyPost_ret (v := .tuple #[.agg #[.slice A n1 c, .int .i64 (k1 : Int)], .int .i64 0]) (by simp [results, Tryz.results35, go_sem, y0, y1]) rfl ⟨_, _, rfl, HK.out.2.2.2.2.2.below (hbf.mono HK.out.2.2.2.2.1), hbf⟩
  · have i1 : (nt : Int) < (u : Int) := by omega
    have hwu : IntKind.u64.wrap (nt : Int) = (nt : Int) := by rw [IntKind.wrap_u64]; omega
    have e0 : ((0 : Nat) : Int) = 0 := rfl
    rw [e0] at hw0 H HK
    have HF := Lib.hid fun W => fail_any A n c 0 2 W
    rw [if_pos rfl] at HF
    have HN := Lib.hid (And.intro hn hnl)
    clear c2 c3 hn hnl hnt hmo
    go_enter Tryz.func35, Tryz.ntmps35
    go_wp2_with fail
    rw [← hw0]
    refine H.out.mono ?_
    rintro x w1 ⟨A1, c1, rfl, hS, hb1⟩
    obtain ⟨W, q, hW, hq, hgq, hbW, hXW, hYW, hZW⟩ := box3 (.slice A1 nt c1) (.int .i64 0) (Nat.le_refl _) HK.out.2.2.2.1 HK.out.1 HK.out.2.1 HK.out.2.2.1 hb1
    go_upto_region 4 with fail
    rw [← hW, ← hq]
    obtain ⟨x0, x1, xf0, xf1⟩ := hXW.facts
    obtain ⟨z0, z1, zf0, zf1⟩ := hZW.facts
    have HW := Lib.hid (And.intro hbW (And.intro hYW hW))
    clear hS hb1 hW hbW hXW hYW hZW hw0 hq hgq
    go_wp2_with (go_at_call 67; go_must (refine (HF.out _).mono ?_; rintro x w3 ⟨rfl, hb3⟩; obtain ⟨y0, y1, yf0, yf1⟩ := (HW.out.2.1.below hb3).facts; have HB3 := Lib.hid (HW.out.1.trans (hb3.mono HW.out.1.size)); clear hb3))
    have hbf := (HB3.out.setCell (p := ⟨w.heap.size + 1, 0, none⟩) (by simp) (.slice A n c)).setCell (p := ⟨w.heap.size + 1, 1, none⟩) (by simp) (.int .i64 2)
    have hn' := HN.out.1.trans HN.out.2.symm
    subst hn'
    exact bodyPost_ret (v := .tuple #[.agg #[.slice A n1 c, .int .i64 2], .int .i64 0]) (by simp [results, Tryz.results35, go_sem, y0, y1]) rfl ⟨_, _, rfl, HK.out.2.2.2.2.2.below (hbf.mono HK.out.2.2.2.2.1), hbf⟩
  · have e0 : ((0 : Nat) : Int) = 0 := rfl
    have hn' : n1 = nt := by rw [hn, hnt]
    subst hn'
    have i1 : ¬ (n1 : Int) < (v : Int) := by omega
    have hwv : IntKind.i64.wrap (v : Int) = (v : Int) := IntWalk.i64_in _ (by omega)
    clear c2 c3 hn hnl hnt hmo
    go_enter Tryz.func35, Tryz.ntmps35
    go_wp2_with fail
    rw [← hw0]
    refine H.out.mono ?_
    rintro x w1 ⟨A1, c1, rfl, hS, hb1⟩
    obtain ⟨hl1, hl2, hl3⟩ := hS.len
    have hwu : IntKind.u64.wrap (n1 : Int) = (n1 : Int) := by rw [IntKind.wrap_u64]; omega
    clear hl1 hl2 hl3
    obtain ⟨W, q, hW, hq, hgq, hbW, hXW, hYW, hZW⟩ := box3 (.slice A1 n1 c1) (.int .i64 0) (Nat.le_refl _) HK.out.2.2.2.1 HK.out.1 HK.out.2.1 HK.out.2.2.1 hb1
    rw [e0]
    go_upto_region 4 with fail
    rw [← hW, ← hq]
    obtain ⟨y0, y1, yf0, yf1⟩ := hYW.facts
    obtain ⟨z0, z1, zf0, zf1⟩ := hZW.facts
    have hSW : Sl W B (.slice A1 n1 c1) s1 := by rw [hW]; exact hS.below (((below_alloc w1 _).mono (by have := hb1.size; have := HK.out.2.2.2.1; have := HK.out.2.2.2.2.1; omega)))
    have HW := Lib.hid (And.intro hbW hSW)
    clear hS hSW hb1 hW hbW hXW hYW hZW hw0 hq hgq
    go_wp2_with fail
    have hbf := (HW.out.1.setCell (p := ⟨w.heap.size + 1, 0, none⟩) (by simp) (.slice A1 n1 c1)).setCell (p := ⟨w.heap.size + 1, 1, none⟩) (by simp) (.int .i64 0)
    have hbg := ((Below.refl B W).setCell (p := ⟨w.heap.size + 1, 0, none⟩) (by have := HK.out.2.2.2.2.1; simp only; omega) (.slice A1 n1 c1)).setCell (p := ⟨w.heap.size + 1, 1, none⟩) (by have := HK.out.2.2.2.2.1; simp only; omega) (.int .i64 0)
    exact bodyPost_ret (v := .tuple #[.agg #[.slice A1 n1 c1, .int .i64 0], .int .i64 (v : Int)]) (by simp [results, Tryz.results35, go_sem, y0, y1]) rfl ⟨_, _, rfl, HW.out.2.below hbg, hbf⟩

end Go.Proofs.YtfblgkcipnkhaaaGreatDoor.pk

/-
  The document's own reader: bytes.
-/
namespace Go.Proofs.YtfblgkcipnkhaaaGreatDoor.pk
open Go Go.RowKit
set_option maxRecDepth 100000

set_option maxHeartbeats 2000000 in
theorem run_head (A : Option Addr) (n c k most : Nat) (hmo : most ≤ 1000000) (bs : List UInt8) (k1 : Nat) (w : World) {B : Nat} (hB : B ≤ w.heap.size) (h : Sl w B (.slice A n c) bs)
    (hk : (if k = 0 then headK 98 bs else k) = k1) (hk1 : k1 ≠ 0) :
    Calls Tryz.prog 68 #[.agg #[.slice A n c, .int .i64 (k : Int)], .int .u8 98, .int .i64 (most : Int)] w fun x w' => x = .returned (.tuple #[.agg #[.slice A n c, .int .i64 (k1 : Int)], .slice none 0 0]) ∧ Below w.heap.size w w' := by
  have hz : ((k1 : Int) != 0) = true := by simp; omega
  have m0 : ¬ (most : Int) < 0 := by omega
  have md : decide ((most : Int) < 0) = false := decide_eq_false m0
  obtain ⟨w0, hw0⟩ : ∃ w0, w0 = (w.alloc (Obj.cells #[Value.slice A n c, Value.int IntKind.i64 (k : Int)] 63)).alloc (Obj.cells #[Value.slice none 0 0, Value.int IntKind.i64 0] 63) := ⟨_, rfl⟩
  have hb0 : Below w.heap.size w w0 := by rw [hw0]; exact ((Below.refl _ _).alloc (Nat.le_refl _) _).alloc (by simp) _
  have hX : RB w0 w.heap.size (.slice A n c) (.int .i64 (k : Int)) := by rw [hw0]; exact heap_alloc2_old _ _ _
  have hY : RB w0 (w.heap.size + 1) (.slice none 0 0) (.int .i64 0) := by rw [hw0]; exact heap_alloc2_new _ _ _
  have H := Lib.hid (head_any A n c k 98 bs w0 (Nat.le_trans hB hb0.size) (h.below (hb0.mono hB)))
  rw [hk] at H
  clear h hmo
  by_cases hk0 : k = 0
  · subst hk0
    have e0 : ((0 : Nat) : Int) = 0 := rfl
    rw [e0] at hw0
    rw [e0] at H
    rw [e0]
    go_enter Tryz.func68, Tryz.ntmps68
    go_wp2_with fail
    rw [← hw0]
    refine H.out.mono ?_
    rintro x w1 ⟨rfl, hb1⟩
    obtain ⟨x0, x1, xf0, xf1⟩ := (hX.below hb1).facts
    obtain ⟨y0, y1, yf0, yf1⟩ := (hY.below hb1).facts
    have HB1 := Lib.hid (hb0.trans (hb1.mono hb0.size))
    clear hw0 hb0 hX hY hb1 hk hk1
    go_wp2
    exact bodyPost_ret (v := .tuple #[.agg #[.slice A n c, .int .i64 (k1 : Int)], .slice none 0 0]) (by simp [results, Tryz.results68, go_sem, y0, y1]) rfl ⟨rfl, set4 HB1.out w.heap.size (Nat.le_refl _) _ _⟩
  · have hkz : ((k : Int) == 0) = false := by simp; omega
    go_enter Tryz.func68, Tryz.ntmps68
    go_wp2_with fail
    rw [← hw0]
    refine H.out.mono ?_
    rintro x w1 ⟨rfl, hb1⟩
    obtain ⟨x0, x1, xf0, xf1⟩ := (hX.below hb1).facts
    obtain ⟨y0, y1, yf0, yf1⟩ := (hY.below hb1).facts
    have HB1 := Lib.hid (hb0.trans (hb1.mono hb0.size))
    clear hw0 hb0 hX hY hb1 hk hk1
    go_wp2
    exact bodyPost_ret (v := .tuple #[.agg #[.slice A n c, .int .i64 (k1 : Int)], .slice none 0 0]) (by simp [results, Tryz.results68, go_sem, y0, y1]) rfl ⟨rfl, set4 HB1.out w.heap.size (Nat.le_refl _) _ _⟩

/-- The digits' end, told by what is left. -/
theorem digits_at (A : Option Addr) (n c a : Nat) (e : UInt8) (bs : List UInt8) (w : World) {B : Nat} (h : Sl w B (.slice A n c) bs) (ha : a ≤ bs.length) (he : isDg e = false)
    (m : Nat) (rest : List UInt8) (hr : scan e [] (bs.drop a) = (0, m, rest)) (en : Nat) (hen : en = bs.length - rest.length) :
    (en ≤ bs.length ∧ rest = bs.drop en) ∧ Calls Tryz.prog 88 #[.slice A n c, .int .i64 (a : Int), .int .u8 (e.toNat : Int)] w fun x w' => x = .returned (.tuple #[.int .u64 (m : Int), .int .i64 (en : Int), .int .i64 0]) ∧ w' = w := by
  obtain ⟨ds, e1, -, -, -⟩ := scan_inv (bs.drop a) [] (by simp) hr
  have e2 : bs = bs.take a ++ (ds ++ [e]) ++ rest := by
    have := (List.take_append_drop a bs).symm
    rw [e1] at this
    rw [List.append_assoc, List.append_assoc]
    exact this
  obtain ⟨y, hy⟩ : ∃ y, y = bs.take a ++ (ds ++ [e]) := ⟨_, rfl⟩
  rw [← hy] at e2
  have hl := congrArg List.length e2
  rw [List.length_append] at hl
  have hdrop : rest = bs.drop en := by
    have h3 := congrArg (List.drop y.length) e2
    rw [List.drop_left] at h3
    rw [hen, show bs.length - rest.length = y.length by omega]
    exact h3.symm
  refine ⟨⟨by omega, hdrop⟩, (digits_any A n c a e bs w h ha he 0 m rest hr).mono ?_⟩
  rintro x w' ⟨en', rfl, hx, rfl⟩
  obtain ⟨h4, h5⟩ := hx rfl
  have h6 := congrArg List.length h5
  rw [List.length_drop] at h6
  have : en' = en := by omega
  rw [this]
  exact ⟨rfl, rfl⟩

set_option maxHeartbeats 4000000 in
theorem run_bad (A : Option Addr) (n c most : Nat) (hmo : most ≤ 1000000) (r : List UInt8) (k m : Nat) (rest : List UInt8) (w : World) {B : Nat} (hB : B ≤ w.heap.size) (h : Sl w B (.slice A n c) (98 :: r))
    (hr : scan 58 [] r = (k, m, rest)) (k2 : Nat) (hk : (k ≠ 0 ∧ k2 = k) ∨ (k = 0 ∧ most < m ∧ k2 = 2) ∨ (k = 0 ∧ ¬ most < m ∧ rest.length < m ∧ k2 = 12)) :
    Calls Tryz.prog 68 #[.agg #[.slice A n c, .int .i64 0], .int .u8 98, .int .i64 (most : Int)] w fun x w' => x = .returned (.tuple #[.agg #[.slice A n c, .int .i64 (k2 : Int)], .slice none 0 0]) ∧ Below w.heap.size w w' := by
  have m0 : ¬ (most : Int) < 0 := by omega
  have md : decide ((most : Int) < 0) = false := decide_eq_false m0
  have hmw : IntKind.u64.wrap (most : Int) = (most : Int) := by rw [IntKind.wrap_u64]; omega
  obtain ⟨hl1, hl2, hl3⟩ := h.len
  obtain ⟨w0, hw0⟩ : ∃ w0, w0 = (w.alloc (Obj.cells #[Value.slice A n c, Value.int IntKind.i64 0] 63)).alloc (Obj.cells #[Value.slice none 0 0, Value.int IntKind.i64 0] 63) := ⟨_, rfl⟩
  have hb0 : Below w.heap.size w w0 := by rw [hw0]; exact ((Below.refl _ _).alloc (Nat.le_refl _) _).alloc (by simp) _
  have hX : RB w0 w.heap.size (.slice A n c) (.int .i64 0) := by rw [hw0]; exact heap_alloc2_old _ _ _
  have hY : RB w0 (w.heap.size + 1) (.slice none 0 0) (.int .i64 0) := by rw [hw0]; exact heap_alloc2_new _ _ _
  have H := Lib.hid (head_any A n c 0 98 (98 :: r) w0 (Nat.le_trans hB hb0.size) (h.below (hb0.mono hB)))
  rw [if_pos rfl, show headK 98 (98 :: r) = 0 from rfl] at H
  have HS := Lib.hid h
  have i63 : (n : Int) ≤ 9223372036854775807 := by omega
  have HL := Lib.hid hl1
  clear h hl1 hl2 hl3
  go_enter Tryz.func68, Tryz.ntmps68
  go_wp2_with fail
  rw [← hw0]
  refine H.out.mono ?_
  rintro x w1 ⟨rfl, hb1⟩
  have hX1 := hX.below hb1
  have hY1 := hY.below hb1
  obtain ⟨x0, x1, xf0, xf1⟩ := hX1.facts
  have hB1 : Below w.heap.size w w1 := hb0.trans (hb1.mono hb0.size)
  have hY2 := Lib.hid (hY1.other (k := w.heap.size) (by omega) (.slice A n c) (.int .i64 0))
  have HB2 := Lib.hid (((hB1.setCell (p := ⟨w.heap.size, 0, none⟩) (Nat.le_refl _) (.slice A n c)).setCell (p := ⟨w.heap.size, 1, none⟩) (Nat.le_refl _) (.int .i64 0)))
  have HS2 := Lib.hid (HS.out.below (HB2.out.mono hB))
  have HR := Lib.hid hr
  clear hw0 hb0 hX hY hb1 hX1 hY1 hB1 hr
  rcases hk with ⟨hk, rfl⟩ | ⟨rfl, hm, rfl⟩ | ⟨rfl, hm, hm2, rfl⟩
  · have hz : ((k2 : Int) != 0) = true := by simp; omega
    have hz' : ((k2 : Int) == 0) = false := by simp; omega
    clear hk
    go_wp2_with (first
      | (go_at_call 88; refine (digits_any A n c 1 58 (98 :: r) _ HS2.out (by simp) (by decide) k2 m rest (by rw [List.drop_one]; exact HR.out)).mono ?_; rintro x w2 ⟨en, rfl, hen, rfl⟩; clear hen)
      | (go_at_call 67; refine (fail_any _ _ _ 0 k2 _).mono ?_; rw [if_pos rfl]; rintro x w3 ⟨rfl, hb3⟩; obtain ⟨y0, y1, yf0, yf1⟩ := (hY2.out.below hb3).facts; have HB3 := Lib.hid (HB2.out.trans (hb3.mono HB2.out.size)); clear hb3))
    exact bodyPost_ret (v := .tuple #[.agg #[.slice A n c, .int .i64 (k2 : Int)], .slice none 0 0]) (by simp [results, Tryz.results68, go_sem, y0, y1]) rfl ⟨rfl, (HB3.out.setCell (by simp) _).setCell (by simp) _⟩
  · have hi : (most : Int) < (m : Int) := by omega
    clear hm
    go_wp2_with (first
      | (go_at_call 88; refine (digits_any A n c 1 58 (98 :: r) _ HS2.out (by simp) (by decide) 0 m rest (by rw [List.drop_one]; exact HR.out)).mono ?_; rintro x w2 ⟨en, rfl, hen, rfl⟩; clear hen)
      | (go_at_call 67; refine (fail_any _ _ _ 0 2 _).mono ?_; rw [if_pos rfl]; rintro x w3 ⟨rfl, hb3⟩; obtain ⟨y0, y1, yf0, yf1⟩ := (hY2.out.below hb3).facts; have HB3 := Lib.hid (HB2.out.trans (hb3.mono HB2.out.size)); clear hb3))
    exact bodyPost_ret (v := .tuple #[.agg #[.slice A n c, .int .i64 2], .slice none 0 0]) (by simp [results, Tryz.results68, go_sem, y0, y1]) rfl ⟨rfl, (HB3.out.setCell (by simp) _).setCell (by simp) _⟩
  · obtain ⟨en, hen⟩ : ∃ en, en = (98 :: r).length - rest.length := ⟨_, rfl⟩
    have hD := digits_at A n c 1 58 (98 :: r) _ HS2.out (by simp) (by decide) m rest (by rw [List.drop_one]; exact HR.out) en hen
    have hl5 := congrArg List.length hD.1.2
    rw [List.length_drop] at hl5
    have i1 : (en : Int) ≤ (n : Int) := by have := HL.out; have := hD.1.1; omega
    have hwu : IntKind.u64.wrap ((n : Int) - (en : Int)) = (rest.length : Int) := by rw [IntKind.wrap_u64]; have := HL.out; have := hD.1.1; omega
    have hi : ¬ (most : Int) < (m : Int) := by omega
    have hi2 : (rest.length : Int) < (m : Int) := by omega
    have HD := Lib.hid hD.2
    clear hm hm2 hen hD hl5
    go_wp2_with (first
      | (go_at_call 88; refine HD.out.mono ?_; rintro x w2 ⟨rfl, rfl⟩)
      | (go_at_call 67; refine (fail_any _ _ _ 0 12 _).mono ?_; rw [if_pos rfl]; rintro x w3 ⟨rfl, hb3⟩; obtain ⟨y0, y1, yf0, yf1⟩ := (hY2.out.below hb3).facts; have HB3 := Lib.hid (HB2.out.trans (hb3.mono HB2.out.size)); clear hb3))
    exact bodyPost_ret (v := .tuple #[.agg #[.slice A n c, .int .i64 12], .slice none 0 0]) (by simp [results, Tryz.results68, go_sem, y0, y1]) rfl ⟨rfl, (HB3.out.setCell (by simp) _).setCell (by simp) _⟩

end Go.Proofs.YtfblgkcipnkhaaaGreatDoor.pk

/-
  The document's own reader: bytes that are there; ReadBytes.
-/
namespace Go.Proofs.YtfblgkcipnkhaaaGreatDoor.pk
open Go Go.RowKit
set_option maxRecDepth 100000

theorem Sl.empty {w : World} {B : Nat} (A : Option Addr) {c : Nat} (hc : c ≤ 9223372036854775807) : Sl w B (.slice A 0 c) [] := ⟨A, c, rfl, Nat.zero_le _, hc, Or.inl rfl⟩
theorem Sl.behind {w : World} {B b off n c : Nat} {bs : List UInt8} (h : Sl w B (.slice (some ⟨b, off, none⟩) n c) bs) (en m : Nat) (h1 : en + m = bs.length) (hc : ¬ c = en) : Sl w B (.slice (some ⟨b, off + en, none⟩) m (c - en)) (bs.drop en) := by
  have h2 := h.cut (k := en) (by omega)
  have hn := h.len.1
  rw [if_neg hc, hn, show bs.length - en = m by omega] at h2
  have e : (some (⟨b, off, none⟩ : Addr)).map (fun x => x.add en) = some ⟨b, off + en, none⟩ := by rw [Option.map_some, Addr.add_lit]
  rw [e] at h2
  exact h2
theorem Sl.mid {w : World} {B b off n c : Nat} {bs : List UInt8} (h : Sl w B (.slice (some ⟨b, off, none⟩) n c) bs) (en m : Nat) (h1 : en + m ≤ bs.length) (hc : ¬ c = en) : Sl w B (.slice (some ⟨b, off + en, none⟩) m (c - en)) ((bs.drop en).take m) := by
  have h2 := h.behind en (bs.length - en) (by omega) hc
  exact h2.front (by rw [List.length_drop]; omega)

set_option maxHeartbeats 4000000 in
theorem run_ok (A : Option Addr) (n c most : Nat) (hmo : most ≤ 1000000) (r : List UInt8) (m : Nat) (rest : List UInt8) (w : World) {B : Nat} (hB : B ≤ w.heap.size) (h : Sl w B (.slice A n c) (98 :: r))
    (hr : scan 58 [] r = (0, m, rest)) (hm : m ≤ most) (hm2 : m ≤ rest.length) (n1 : Nat) (hn1 : n1 = rest.length - m) :
    Calls Tryz.prog 68 #[.agg #[.slice A n c, .int .i64 0], .int .u8 98, .int .i64 (most : Int)] w fun x w' => ∃ A' c' Ab cb, x = .returned (.tuple #[.agg #[.slice A' n1 c', .int .i64 0], .slice Ab m cb]) ∧ Sl w' B (.slice A' n1 c') (rest.drop m) ∧ Sl w' B (.slice Ab m cb) (rest.take m) ∧ Below w.heap.size w w' := by
  have m0 : ¬ (most : Int) < 0 := by omega
  have md : decide ((most : Int) < 0) = false := decide_eq_false m0
  have hmw : IntKind.u64.wrap (most : Int) = (most : Int) := by rw [IntKind.wrap_u64]; omega
  have hmi : IntKind.i64.wrap (m : Int) = (m : Int) := IntWalk.i64_in _ (by omega)
  obtain ⟨hl1, hl2, hl3⟩ := h.len
  obtain ⟨b, off, rfl, -⟩ := h.head
  obtain ⟨w0, hw0⟩ : ∃ w0, w0 = (w.alloc (Obj.cells #[Value.slice (some ⟨b, off, none⟩) n c, Value.int IntKind.i64 0] 63)).alloc (Obj.cells #[Value.slice none 0 0, Value.int IntKind.i64 0] 63) := ⟨_, rfl⟩
  have hb0 : Below w.heap.size w w0 := by rw [hw0]; exact ((Below.refl _ _).alloc (Nat.le_refl _) _).alloc (by simp) _
  have hX : RB w0 w.heap.size (.slice (some ⟨b, off, none⟩) n c) (.int .i64 0) := by rw [hw0]; exact heap_alloc2_old _ _ _
  have hY : RB w0 (w.heap.size + 1) (.slice none 0 0) (.int .i64 0) := by rw [hw0]; exact heap_alloc2_new _ _ _
  have H := Lib.hid (head_any (some ⟨b, off, none⟩) n c 0 98 (98 :: r) w0 (Nat.le_trans hB hb0.size) (h.below (hb0.mono hB)))
  rw [if_pos rfl, show headK 98 (98 :: r) = 0 from rfl] at H
  have HS := Lib.hid h
  have i63 : (n : Int) ≤ 9223372036854775807 := by omega
  have i64' : (n : Int) ≤ (c : Int) := by omega
  obtain ⟨en, hen⟩ : ∃ en, en = (98 :: r).length - rest.length := ⟨_, rfl⟩
  have hD := fun W (hW : Below w.heap.size w W) => digits_at (some ⟨b, off, none⟩) n c 1 58 (98 :: r) W (h.below (hW.mono hB)) (by simp) (by decide) m rest (by rw [List.drop_one]; exact hr) en hen
  have hd1 := (hD w (Below.refl _ _)).1
  have hl5 := congrArg List.length hd1.2
  rw [List.length_drop] at hl5
  have hn2 : n1 = n - (en + m) := by omega
  have hcut : ∃ A1 c1, (if c = en + m then (some ⟨b, off, none⟩ : Option Addr) else some ⟨b, off + (en + m), none⟩) = A1 ∧ c - (en + m) = c1 ∧ Sl w B (.slice A1 n1 c1) (rest.drop m) := by
    refine ⟨_, _, rfl, rfl, ?_⟩
    rw [hd1.2, List.drop_drop]
    by_cases hc : c = en + m
    · rw [if_pos hc, show n1 = 0 by omega, List.drop_eq_nil_of_le (by omega)]
      exact Sl.empty _ (by omega)
    · rw [if_neg hc]
      exact h.behind (en + m) n1 (by omega) hc
  have hmid : ∃ A2 c2, (if c = en then (some ⟨b, off, none⟩ : Option Addr) else some ⟨b, off + en, none⟩) = A2 ∧ c - en = c2 ∧ Sl w B (.slice A2 m c2) (rest.take m) := by
    refine ⟨_, _, rfl, rfl, ?_⟩
    rw [hd1.2]
    by_cases hc : c = en
    · rw [if_pos hc, show m = 0 by omega, List.take_zero]
      exact Sl.empty _ (by omega)
    · rw [if_neg hc]
      exact h.mid en m (by omega) hc
  obtain ⟨A1, c1, hA1, hc1, hS1⟩ := hcut
  obtain ⟨A2, c2, hA2, hc2, hS2⟩ := hmid
  have i1 : (en : Int) ≤ (n : Int) := by omega
  have i2 : (en : Int) + (m : Int) ≤ (n : Int) := by omega
  have hwu : IntKind.u64.wrap ((n : Int) - (en : Int)) = (rest.length : Int) := by rw [IntKind.wrap_u64]; omega
  have hi : ¬ (most : Int) < (m : Int) := by omega
  have hi2 : ¬ (rest.length : Int) < (m : Int) := by omega
  have HD := Lib.hid hD
  have HF := Lib.hid (And.intro hn2 (And.intro hS1 (And.intro hS2 hB)))
  clear h hl1 hl2 hl3 hm hm2 hen hD hd1 hl5 hn2 hn1 hr hS1 hS2
  go_enter Tryz.func68, Tryz.ntmps68
  go_wp2_with fail
  rw [← hw0]
  refine H.out.mono ?_
  rintro x w1 ⟨rfl, hb1⟩
  have hX1 := hX.below hb1
  have hY1 := hY.below hb1
  obtain ⟨x0, x1, xf0, xf1⟩ := hX1.facts
  obtain ⟨y0, y1, yf0, yf1⟩ := hY1.facts
  have hB1 : Below w.heap.size w w1 := hb0.trans (hb1.mono hb0.size)
  have HB2 := Lib.hid (((hB1.setCell (p := ⟨w.heap.size, 0, none⟩) (Nat.le_refl _) (.slice (some ⟨b, off, none⟩) n c)).setCell (p := ⟨w.heap.size, 1, none⟩) (Nat.le_refl _) (.int .i64 0)))
  clear hw0 hb0 hX hY hb1 hX1 hY1 hB1
  go_upto_region 14 with (go_at_call 88; refine (HD.out _ HB2.out).2.mono ?_; rintro x w2 ⟨rfl, rfl⟩)
  go_wp2_with fail
  all_goals
    try (have hce : c = en + m := by assumption
         subst hce)
    rw [← HF.out.1]
    have hbf := ((HB2.out.setCell (p := ⟨w.heap.size, 0, none⟩) (Nat.le_refl _) (.slice A1 n1 c1)).setCell (p := ⟨w.heap.size + 1, 0, none⟩) (by simp) (.slice A1 n1 c1)).setCell (p := ⟨w.heap.size + 1, 1, none⟩) (by simp) (.int .i64 0)
    exact bodyPost_ret (v := .tuple #[.agg #[.slice A1 n1 c1, .int .i64 0], .slice A2 m c2]) (by simp [results, Tryz.results68, go_sem, y0, y1]) rfl ⟨_, _, _, _, rfl, HF.out.2.1.below (hbf.mono HF.out.2.2.2), HF.out.2.2.1.below (hbf.mono HF.out.2.2.2), hbf⟩

theorem rdBytes_at {r rest : List UInt8} {q m : Nat} (hs : scan 58 [] r = (q, m, rest)) (most : Nat) : rdBytes 98 (most : Int) (98 :: r) = if q ≠ 0 then (q, [], []) else if most < m then (2, [], []) else if rest.length < m then (12, [], []) else (0, rest.take m, rest.drop m) := by
  have h1 : hd 98 58 (98 :: r) = (q, m, rest) := by rw [hd_cons, if_pos rfl, hs]
  have h0 : ¬ (most : Int) < 0 := by omega
  unfold rdBytes
  rw [if_neg h0, h1]
  cases q with
  | succ q => rw [if_pos (by omega)]
  | zero =>
    rw [if_neg (by omega)]
    simp only
    by_cases h2 : most < m
    · rw [if_pos h2, if_pos (by omega)]
    · rw [if_neg h2, if_neg (by omega)]
theorem rBytes_zero (l : UInt8) (most : Int) (bs : List UInt8) {e : Nat} {x y : List UInt8} (h : rdBytes l most bs = (e, x, y)) : rBytes l most (bs, 0) = if e = 0 then ((y, 0), x) else ((bs, e), []) := by
  unfold rBytes
  rw [if_pos rfl]
  simp only [h]

theorem run_s (A : Option Addr) (n c k most : Nat) (hmo : most ≤ 1000000) (bs : List UInt8) (w : World) (B : Nat) (hB : B ≤ w.heap.size) (h : Sl w B (.slice A n c) bs) (s1 x1 : List UInt8) (k1 n1 m1 : Nat) (hr : rBytes 98 (most : Int) (bs, k) = ((s1, k1), x1)) (hn : n1 = s1.length) (hm : m1 = x1.length) :
    Calls Tryz.prog 68 #[.agg #[.slice A n c, .int .i64 (k : Int)], .int .u8 98, .int .i64 (most : Int)] w fun x w' => ∃ A' c' Ab cb, x = .returned (.tuple #[.agg #[.slice A' n1 c', .int .i64 (k1 : Int)], .slice Ab m1 cb]) ∧ Sl w' B (.slice A' n1 c') s1 ∧ Sl w' B (.slice Ab m1 cb) x1 ∧ Below w.heap.size w w' := by
  obtain ⟨hnl, -, -⟩ := h.len
  have bad : ∀ q, s1 = bs → k1 = q → x1 = [] → (Calls Tryz.prog 68 #[.agg #[.slice A n c, .int .i64 (k : Int)], .int .u8 98, .int .i64 (most : Int)] w fun x w' => x = .returned (.tuple #[.agg #[.slice A n c, .int .i64 (q : Int)], .slice none 0 0]) ∧ Below w.heap.size w w') →
      Calls Tryz.prog 68 #[.agg #[.slice A n c, .int .i64 (k : Int)], .int .u8 98, .int .i64 (most : Int)] w fun x w' => ∃ A' c' Ab cb, x = .returned (.tuple #[.agg #[.slice A' n1 c', .int .i64 (k1 : Int)], .slice Ab m1 cb]) ∧ Sl w' B (.slice A' n1 c') s1 ∧ Sl w' B (.slice Ab m1 cb) x1 ∧ Below w.heap.size w w' := by
    intro q e1 e2 e3 hC
    refine hC.mono ?_
    rintro x w' ⟨e, hb⟩
    subst e1
    subst e2
    subst e3
    have e4 : n1 = n := by rw [hn, hnl]
    subst e4
    subst hm
    exact ⟨A, c, none, 0, e, h.below (hb.mono hB), Sl.nil_ _ _, hb⟩
  by_cases hk : (if k = 0 then headK 98 bs else k) = 0
  · by_cases h0 : k = 0
    · subst h0
      rw [if_pos rfl] at hk
      obtain ⟨r, rfl⟩ := headK_eq hk
      rcases hs : scan 58 [] r with ⟨q, m, rest⟩
      have hd := rdBytes_at hs most
      by_cases hq : q = 0
      · subst hq
        rw [if_neg (by simp)] at hd
        by_cases h1 : most < m
        · rw [if_pos h1] at hd
          rw [rBytes_zero 98 most _ hd, if_neg (by simp)] at hr
          simp only [Prod.mk.injEq] at hr
          exact bad 2 hr.1.1.symm hr.1.2.symm hr.2.symm (run_bad A n c most hmo r 0 m rest w hB h hs 2 (Or.inr (Or.inl ⟨rfl, h1, rfl⟩)))
        · rw [if_neg h1] at hd
          by_cases h2 : rest.length < m
          · rw [if_pos h2] at hd
            rw [rBytes_zero 98 most _ hd, if_neg (by simp)] at hr
            simp only [Prod.mk.injEq] at hr
            exact bad 12 hr.1.1.symm hr.1.2.symm hr.2.symm (run_bad A n c most hmo r 0 m rest w hB h hs 12 (Or.inr (Or.inr ⟨rfl, h1, h2, rfl⟩)))
          · rw [if_neg h2] at hd
            rw [rBytes_zero 98 most _ hd, if_pos rfl] at hr
            simp only [Prod.mk.injEq] at hr
            obtain ⟨⟨rfl, rfl⟩, rfl⟩ := hr
            have e1 : m1 = m := by rw [hm, List.length_take]; omega
            subst e1
            exact run_ok A n c most hmo r m1 rest w hB h hs (by omega) (by omega) n1 (by rw [hn, List.length_drop])
      · rw [if_pos hq] at hd
        rw [rBytes_zero 98 most _ hd, if_neg hq] at hr
        simp only [Prod.mk.injEq] at hr
        exact bad q hr.1.1.symm hr.1.2.symm hr.2.symm (run_bad A n c most hmo r q m rest w hB h hs q (Or.inl ⟨hq, rfl⟩))
    · rw [if_neg h0] at hk; exact absurd hk h0
  · have e : rBytes 98 (most : Int) (bs, k) = ((bs, if k = 0 then headK 98 bs else k), []) := by
      by_cases h0 : k = 0
      · subst h0
        rw [if_pos rfl] at hk ⊢
        have h1 := headK_ne hk 58
        have hd : rdBytes 98 (most : Int) bs = (headK 98 bs, [], []) := by
          unfold rdBytes
          rw [if_neg (show ¬ (most : Int) < 0 by omega), h1]
          rcases hq : headK 98 bs with _ | q
          · exact absurd hq hk
          · rfl
        rw [rBytes_zero 98 most _ hd, if_neg hk]
      · rw [if_neg h0]; unfold rBytes; rw [if_neg h0]
    rw [e] at hr
    simp only [Prod.mk.injEq] at hr
    exact bad _ hr.1.1.symm hr.1.2.symm hr.2.symm (run_head A n c k most hmo bs _ w hB h rfl hk)

set_option maxHeartbeats 1000000 in
theorem ReadBytes_s (A : Option Addr) (n c k most : Nat) (hmo : most ≤ 1000000) (bs : List UInt8) (w : World) (B : Nat) (hB : B ≤ w.heap.size) (h : Sl w B (.slice A n c) bs) (s1 x1 : List UInt8) (k1 n1 m1 : Nat) (hr : rBytes 98 (most : Int) (bs, k) = ((s1, k1), x1)) (hn : n1 = s1.length) (hm : m1 = x1.length) :
    Calls Tryz.prog 34 #[.agg #[.slice A n c, .int .i64 (k : Int)], .int .i64 (most : Int)] w fun x w' => ∃ A' c' Ab cb, x = .returned (.tuple #[.agg #[.slice A' n1 c', .int .i64 (k1 : Int)], .slice Ab m1 cb]) ∧ Sl w' B (.slice A' n1 c') s1 ∧ Sl w' B (.slice Ab m1 cb) x1 ∧ Below w.heap.size w w' := by
  obtain ⟨w0, hw0⟩ : ∃ w0, w0 = (w.alloc (Obj.cells #[Value.slice A n c, Value.int IntKind.i64 (k : Int)] 63)).alloc (Obj.cells #[Value.slice none 0 0, Value.int IntKind.i64 0] 63) := ⟨_, rfl⟩
  have hb0 : Below w.heap.size w w0 := by rw [hw0]; exact ((Below.refl _ _).alloc (Nat.le_refl _) _).alloc (by simp) _
  have hY : RB w0 (w.heap.size + 1) (.slice none 0 0) (.int .i64 0) := by rw [hw0]; exact heap_alloc2_new _ _ _
  have H := Lib.hid (run_s A n c k most hmo bs w0 B (Nat.le_trans hB hb0.size) (h.below (hb0.mono hB)) s1 x1 k1 n1 m1 hr hn hm)
  have HK := Lib.hid hB
  clear h hr hn hm hmo
  go_enter Tryz.func34, Tryz.ntmps34
  go_wp2_with fail
  rw [← hw0]
  refine H.out.mono ?_
  rintro x w1 ⟨A1, c1, A2, c2, rfl, hS1, hS2, hb1⟩
  obtain ⟨y0, y1, yf0, yf1⟩ := (hY.below hb1).facts
  have HB1 := Lib.hid (And.intro (hb0.trans (hb1.mono hb0.size)) (And.intro hS1 hS2))
  clear hw0 hb0 hY hb1 hS1 hS2
  go_wp2
  have hbf := (HB1.out.1.setCell (p := ⟨w.heap.size + 1, 0, none⟩) (by simp) (.slice A1 n1 c1)).setCell (p := ⟨w.heap.size + 1, 1, none⟩) (by simp) (.int .i64 (k1 : Int))
  have hbg := ((Below.refl B w1).setCell (p := ⟨w.heap.size + 1, 0, none⟩) (by have := HK.out; simp only; omega) (.slice A1 n1 c1)).setCell (p := ⟨w.heap.size + 1, 1, none⟩) (by have := HK.out; simp only; omega) (.int .i64 (k1 : Int))
  exact bodyPost_ret (v := .tuple #[.agg #[.slice A1 n1 c1, .int .i64 (k1 : Int)], .slice A2 m1 c2]) (by simp [results, Tryz.results34, go_sem, y0, y1]) rfl ⟨_, _, _, _, rfl, HB1.out.2.1.below hbg, HB1.out.2.2.below hbg, hbf⟩

end Go.Proofs.YtfblgkcipnkhaaaGreatDoor.pk

/-
  The document's own reader: an entry.
-/
namespace Go.Proofs.YtfblgkcipnkhaaaGreatDoor.pk
open Go Go.RowKit
set_option maxRecDepth 100000

theorem rUint_le (most : Nat) (s : List UInt8 × Nat) : (rUint most s).2 ≤ most := by
  unfold rUint
  by_cases h0 : s.2 = 0
  · rw [if_pos h0]
    by_cases h1 : (rdUint most s.1).1 = 0
    · rw [if_pos h1]
      exact (rdUint_inv (most := most) (l := s.1) (n := (rdUint most s.1).2.1) (r := (rdUint most s.1).2.2) (Prod.ext h1 rfl)).2.1
    · rw [if_neg h1]; exact Nat.zero_le _
  · rw [if_neg h0]; exact Nat.zero_le _

/-- A box of four cells. -/
def E4 (w : World) (g : Nat) (a b c d : Value) : Prop := w.heap[g]? = some (.cells #[a, b, c, d] 71 (0, 0))
theorem E4.lt {w : World} {g : Nat} {a b c d : Value} (h : E4 w g a b c d) : g < w.heap.size := obj_lt h
theorem E4.below {w w' : World} {g : Nat} {a b c d : Value} (h : E4 w g a b c d) (hb : Below w.heap.size w w') : E4 w' g a b c d := (hb.block g h.lt).trans h
theorem E4.other {w : World} {g : Nat} {a b c d : Value} (h : E4 w g a b c d) (p : Addr) (hp : g ≠ p.block) (u : Value) : E4 (w.setCell p u) g a b c d := (Below.heap_setCell w p u g hp).trans h
theorem RB.other1 {w : World} {g : Nat} {x y : Value} (h : RB w g x y) (p : Addr) (hp : g ≠ p.block) (u : Value) : RB (w.setCell p u) g x y := (Below.heap_setCell w p u g hp).trans h
theorem E4.set0 {w : World} {g : Nat} {a b c d : Value} (h : E4 w g a b c d) (u : Value) : E4 (w.setCell ⟨g, 0, none⟩ u) g u b c d := by
  unfold E4 at h ⊢; simp [World.setCell, Array.getElem?_modify, h]
theorem E4.set1 {w : World} {g : Nat} {a b c d : Value} (h : E4 w g a b c d) (u : Value) : E4 (w.setCell ⟨g, 1, none⟩ u) g a u c d := by
  unfold E4 at h ⊢; simp [World.setCell, Array.getElem?_modify, h]
theorem E4.set2 {w : World} {g : Nat} {a b c d : Value} (h : E4 w g a b c d) (u : Value) : E4 (w.setCell ⟨g, 2, none⟩ u) g a b u d := by
  unfold E4 at h ⊢; simp [World.setCell, Array.getElem?_modify, h]
theorem E4.set3 {w : World} {g : Nat} {a b c d : Value} (h : E4 w g a b c d) (u : Value) : E4 (w.setCell ⟨g, 3, none⟩ u) g a b c u := by
  unfold E4 at h ⊢; simp [World.setCell, Array.getElem?_modify, h]

/-- Where Take stands: its reader, the two results, the entry. -/
structure Tk (w : World) (g : Nat) (W : World) (x0 x1 a b c d : Value) : Prop where
  r : RB W g x0 x1
  y : RB W (g + 1) (.slice none 0 0) (.int .i64 0)
  z : E4 W (g + 2) (.int .i64 0) (.int .i64 0) (.int .i64 0) (.slice none 0 0)
  e : E4 W (g + 3) a b c d
  bel : Below g w W
section
variable {w W W' : World} {g : Nat} {x0 x1 a b c d : Value}
theorem Tk.call (h : Tk w g W x0 x1 a b c d) (hb : Below W.heap.size W W') : Tk w g W' x0 x1 a b c d :=
  ⟨h.r.below hb, h.y.below hb, h.z.below hb, h.e.below hb, h.bel.trans (hb.mono (Nat.le_of_lt h.r.lt))⟩
theorem Tk.setR (h : Tk w g W x0 x1 a b c d) (u v : Value) : Tk w g ((W.setCell ⟨g, 0, none⟩ u).setCell ⟨g, 1, none⟩ v) u v a b c d :=
  ⟨h.r.set u v, (h.y.other1 _ (by simp only; omega) _).other1 _ (by simp only; omega) _, (h.z.other _ (by simp only; omega) _).other _ (by simp only; omega) _, (h.e.other _ (by simp only; omega) _).other _ (by simp only; omega) _,
    (h.bel.setCell (p := ⟨g, 0, none⟩) (Nat.le_refl _) _).setCell (p := ⟨g, 1, none⟩) (Nat.le_refl _) _⟩
theorem Tk.set0 (h : Tk w g W x0 x1 a b c d) (u : Value) : Tk w g (W.setCell ⟨g + 3, 0, none⟩ u) x0 x1 u b c d :=
  ⟨h.r.other1 _ (by simp only; omega) _, h.y.other1 _ (by simp only; omega) _, h.z.other _ (by simp only; omega) _, h.e.set0 u, h.bel.setCell (p := ⟨g + 3, 0, none⟩) (by simp only; omega) _⟩
theorem Tk.set1 (h : Tk w g W x0 x1 a b c d) (u : Value) : Tk w g (W.setCell ⟨g + 3, 1, none⟩ u) x0 x1 a u c d :=
  ⟨h.r.other1 _ (by simp only; omega) _, h.y.other1 _ (by simp only; omega) _, h.z.other _ (by simp only; omega) _, h.e.set1 u, h.bel.setCell (p := ⟨g + 3, 1, none⟩) (by simp only; omega) _⟩
theorem Tk.set2 (h : Tk w g W x0 x1 a b c d) (u : Value) : Tk w g (W.setCell ⟨g + 3, 2, none⟩ u) x0 x1 a b u d :=
  ⟨h.r.other1 _ (by simp only; omega) _, h.y.other1 _ (by simp only; omega) _, h.z.other _ (by simp only; omega) _, h.e.set2 u, h.bel.setCell (p := ⟨g + 3, 2, none⟩) (by simp only; omega) _⟩
theorem Tk.set3 (h : Tk w g W x0 x1 a b c d) (u : Value) : Tk w g (W.setCell ⟨g + 3, 3, none⟩ u) x0 x1 a b c u :=
  ⟨h.r.other1 _ (by simp only; omega) _, h.y.other1 _ (by simp only; omega) _, h.z.other _ (by simp only; omega) _, h.e.set3 u, h.bel.setCell (p := ⟨g + 3, 3, none⟩) (by simp only; omega) _⟩
end

theorem tk_start (w : World) (u v : Value) : ∃ W, W = (((w.alloc (Obj.cells #[u, v] 63)).alloc (Obj.cells #[Value.slice none 0 0, Value.int IntKind.i64 0] 63)).alloc (Obj.cells #[Value.int .i64 0, Value.int .i64 0, Value.int .i64 0, Value.slice none 0 0] 71)).alloc (Obj.cells #[Value.int .i64 0, Value.int .i64 0, Value.int .i64 0, Value.slice none 0 0] 71) ∧
    Tk w w.heap.size W u v (.int .i64 0) (.int .i64 0) (.int .i64 0) (.slice none 0 0) := by
  refine ⟨_, rfl, ?_⟩
  obtain ⟨W1, h1⟩ : ∃ W1, W1 = w.alloc (Obj.cells #[u, v] 63) := ⟨_, rfl⟩
  obtain ⟨W2, h2⟩ : ∃ W2, W2 = W1.alloc (Obj.cells #[Value.slice none 0 0, Value.int IntKind.i64 0] 63) := ⟨_, rfl⟩
  obtain ⟨W3, h3⟩ : ∃ W3, W3 = W2.alloc (Obj.cells #[Value.int .i64 0, Value.int .i64 0, Value.int .i64 0, Value.slice none 0 0] 71) := ⟨_, rfl⟩
  rw [← h1, ← h2, ← h3]
  have b1 : Below w.heap.size w W1 := by rw [h1]; exact below_alloc _ _
  have b2 : Below W1.heap.size W1 W2 := by rw [h2]; exact below_alloc _ _
  have b3 : Below W2.heap.size W2 W3 := by rw [h3]; exact below_alloc _ _
  have b4 := below_alloc W3 (Obj.cells #[Value.int .i64 0, Value.int .i64 0, Value.int .i64 0, Value.slice none 0 0] 71)
  have s1 : W1.heap.size = w.heap.size + 1 := by rw [h1, World.size_alloc]
  have s2 : W2.heap.size = w.heap.size + 2 := by rw [h2, World.size_alloc, s1]
  have s3 : W3.heap.size = w.heap.size + 3 := by rw [h3, World.size_alloc, s2]
  have r1 : RB W1 w.heap.size u v := by rw [h1]; exact heap_alloc_new w _
  have y1 : RB W2 (w.heap.size + 1) (.slice none 0 0) (.int .i64 0) := by rw [h2, ← s1]; exact heap_alloc_new W1 _
  have z1 : E4 W3 (w.heap.size + 2) (.int .i64 0) (.int .i64 0) (.int .i64 0) (.slice none 0 0) := by rw [h3, ← s2]; exact heap_alloc_new W2 _
  have e1 : E4 (W3.alloc (Obj.cells #[Value.int .i64 0, Value.int .i64 0, Value.int .i64 0, Value.slice none 0 0] 71)) (w.heap.size + 3) (.int .i64 0) (.int .i64 0) (.int .i64 0) (.slice none 0 0) := by rw [← s3]; exact heap_alloc_new W3 _
  exact ⟨((r1.below b2).below b3).below b4, (y1.below b3).below b4, z1.below b4, e1, ((b1.trans (b2.mono (by omega))).trans (b3.mono (by omega))).trans (b4.mono (by omega))⟩

theorem RB.drew_ {w : World} {g : Nat} {x y : Value} (h : RB w g x y) : RB w.drew g x y := h
theorem E4.drew_ {w : World} {g : Nat} {a b c d : Value} (h : E4 w g a b c d) : E4 w.drew g a b c d := h
theorem take_end {w W : World} {g : Nat} {x0 x1 a b c d : Value} (T : Tk w g W x0 x1 a b c d) (p q e0 e1 e2 e3 : Value) : ∃ F, F = ((((((W.setCell ⟨g + 1, 0, none⟩ p).setCell ⟨g + 1, 1, none⟩ q).setCell ⟨g + 2, 0, none⟩ e0).setCell ⟨g + 2, 1, none⟩ e1).setCell ⟨g + 2, 2, none⟩ e2).setCell ⟨g + 2, 3, none⟩ e3).drew ∧
    RB F (g + 1) p q ∧ E4 F (g + 2) e0 e1 e2 e3 ∧ ∀ Q, Q ≤ g → Below Q W F := by
  have hne : g + 1 ≠ g + 2 := by omega
  have hne' : g + 2 ≠ g + 1 := by omega
  refine ⟨_, rfl, RB.drew_ ?_, E4.drew_ ?_, fun Q hQ => Below.drew ?_⟩
  · exact ((((T.y.set p q).other1 ⟨g + 2, 0, none⟩ hne e0).other1 ⟨g + 2, 1, none⟩ hne e1).other1 ⟨g + 2, 2, none⟩ hne e2).other1 ⟨g + 2, 3, none⟩ hne e3
  · have h1 := (T.z.other ⟨g + 1, 0, none⟩ hne' p).other ⟨g + 1, 1, none⟩ hne' q
    exact (((h1.set0 e0).set1 e1).set2 e2).set3 e3
  · have h1 : Q ≤ g + 1 := by omega
    have h2 : Q ≤ g + 2 := by omega
    exact ((((((Below.refl Q W).setCell (p := ⟨g + 1, 0, none⟩) h1 p).setCell (p := ⟨g + 1, 1, none⟩) h1 q).setCell (p := ⟨g + 2, 0, none⟩) h2 e0).setCell (p := ⟨g + 2, 1, none⟩) h2 e1).setCell (p := ⟨g + 2, 2, none⟩) h2 e2).setCell (p := ⟨g + 2, 3, none⟩) h2 e3

set_option maxHeartbeats 8000000 in
theorem Take_s (A : Option Addr) (n c k : Nat) (bs : List UInt8) (w : World) (B : Nat) (hB : B ≤ w.heap.size) (h : Sl w B (.slice A n c) bs) (s4 : List UInt8) (k4 n4 m : Nat) (en : En) (hr : takeE (bs, k) = ((s4, k4), en)) (hn : n4 = s4.length) (hm : m = en.data.length) :
    Calls Tryz.prog 69 #[.agg #[.slice A n c, .int .i64 (k : Int)]] w fun x w' => ∃ A' c' Ab cb, x = .returned (.tuple #[.agg #[.slice A' n4 c', .int .i64 (k4 : Int)], .agg #[.int .i64 en.index, .int .i64 en.term, .int .i64 en.kind, .slice Ab m cb]]) ∧
      Sl w' B (.slice A' n4 c') s4 ∧ Sl w' B (.slice Ab m cb) en.data ∧ Below w.heap.size w w' := by
  rcases h1 : rUint 1099511627776 (bs, k) with ⟨⟨s1, k1⟩, v1⟩
  rcases h2 : rUint 1099511627776 (s1, k1) with ⟨⟨s2, k2⟩, v2⟩
  rcases h3 : rUint 2 (s2, k2) with ⟨⟨s3, k3⟩, v3⟩
  rcases h4 : rBytes 98 4096 (s3, k3) with ⟨⟨s4', k4'⟩, x⟩
  have l1 : v1 ≤ 1099511627776 := by have := rUint_le 1099511627776 (bs, k); rw [h1] at this; exact this
  have l2 : v2 ≤ 1099511627776 := by have := rUint_le 1099511627776 (s1, k1); rw [h2] at this; exact this
  have l3 : v3 ≤ 2 := by have := rUint_le 2 (s2, k2); rw [h3] at this; exact this
  unfold takeE at hr
  simp only [h1, h2, h3, h4, Prod.mk.injEq] at hr
  obtain ⟨⟨rfl, rfl⟩, rfl⟩ := hr
  have q1 : IntKind.i64.wrap (v1 : Int) = (v1 : Int) := IntWalk.i64_in _ (by omega)
  have q2 : IntKind.i64.wrap (v2 : Int) = (v2 : Int) := IntWalk.i64_in _ (by omega)
  have q3 : IntKind.i64.wrap (v3 : Int) = (v3 : Int) := IntWalk.i64_in _ (by omega)
  obtain ⟨n1, hn1⟩ : ∃ n1, n1 = s1.length := ⟨_, rfl⟩
  obtain ⟨n2, hn2⟩ : ∃ n2, n2 = s2.length := ⟨_, rfl⟩
  obtain ⟨n3, hn3⟩ : ∃ n3, n3 = s3.length := ⟨_, rfl⟩
  obtain ⟨W0, hW0, T0⟩ := tk_start w (.slice A n c) (.int .i64 (k : Int))
  have C1 := Lib.hid fun W hB' hS => ReadUint_s A n c k 1099511627776 bs W B hB' hS s1 k1 v1 n1 h1 hn1
  have C2 := Lib.hid fun A c W hB' hS => ReadUint_s A n1 c k1 1099511627776 s1 W B hB' hS s2 k2 v2 n2 h2 hn2
  have C3 := Lib.hid fun A c W hB' hS => ReadUint_s A n2 c k2 2 s2 W B hB' hS s3 k3 v3 n3 h3 hn3
  have C4 := Lib.hid fun A c W hB' hS => ReadBytes_s A n3 c k3 4096 (by omega) s3 W B hB' hS s4' x k4' n4 m h4 hn hm
  have HB := Lib.hid hB
  have hg : B ≤ w.heap.size := hB
  obtain ⟨g, hge⟩ : ∃ g, g = w.heap.size := ⟨_, rfl⟩
  have HS := Lib.hid h
  have HG := Lib.hid hge
  have hres : Tryz.f69.results = #[.cell 2 63, .cell 3 71] := by kernel_rfl
  rw [← hge] at T0 hg
  have HT0 := Lib.hid (And.intro T0 hg)
  clear h h1 h2 h3 h4 l1 l2 l3 hn hm hn1 hn2 hn3 hB hge T0 hg
  go_enter Tryz.func69, Tryz.ntmps69
  go_upto_region 3 with fail
  rw [← hW0]
  simp only [Nat.add_assoc, Nat.reduceAdd]
  rw [← HG.out]
  clear hW0
  obtain ⟨x0, x1, xf0, xf1⟩ := HT0.out.1.r.facts
  go_upto_region 5 with (go_at_call 66; go_must (refine (C1.out _ (Nat.le_trans HT0.out.2 (Nat.le_of_lt HT0.out.1.r.lt)) (HS.out.below (HT0.out.1.bel.mono HT0.out.2))).mono ?_; rintro y w1 ⟨A1, c1, rfl, hS1, hb1⟩; have U1 := HT0.out.1.call hb1; obtain ⟨x0, x1, xf0, xf1⟩ := U1.r.facts; obtain ⟨e0, e1, e2, e3⟩ := cells4 U1.e; have f0 := frozen_own U1.e 0; have f1 := frozen_own U1.e 1; have f2 := frozen_own U1.e 2; have f3 := frozen_own U1.e 3; have HU1 := Lib.hid (And.intro U1 hS1); clear U1 hb1 hS1))
  clear x0 x1 xf0 xf1 e0 e1 e2 e3 f0 f1 f2 f3
  obtain ⟨W1, hW1⟩ : ∃ W, W = ((w1.setCell ⟨g, 0, none⟩ (.slice A1 n1 c1)).setCell ⟨g, 1, none⟩ (.int .i64 (k1 : Int))).setCell ⟨g + 3, 0, none⟩ (.int .i64 (v1 : Int)) := ⟨_, rfl⟩
  have T1 := (HU1.out.1.setR (.slice A1 n1 c1) (.int .i64 (k1 : Int))).set0 (.int .i64 (v1 : Int))
  have S1 := HU1.out.2.below (show Below B w1 (((w1.setCell ⟨g, 0, none⟩ (.slice A1 n1 c1)).setCell ⟨g, 1, none⟩ (.int .i64 (k1 : Int))).setCell ⟨g + 3, 0, none⟩ (.int .i64 (v1 : Int))) from (((Below.refl B w1).setCell (p := ⟨g, 0, none⟩) HT0.out.2 _).setCell (p := ⟨g, 1, none⟩) HT0.out.2 _).setCell (p := ⟨g + 3, 0, none⟩) (by have := HT0.out.2; simp only; omega) _)
  rw [← hW1] at T1 S1 ⊢
  have HT1 := Lib.hid (And.intro T1 S1)
  clear T1 S1 hW1
  obtain ⟨x0, x1, xf0, xf1⟩ := HT1.out.1.r.facts
  go_upto_region 7 with (go_at_call 66; go_must (refine (C2.out A1 c1 _ (Nat.le_trans HT0.out.2 (Nat.le_of_lt HT1.out.1.r.lt)) HT1.out.2).mono ?_; rintro y w2 ⟨A2, c2, rfl, hS2, hb2⟩; have U2 := HT1.out.1.call hb2; obtain ⟨x0, x1, xf0, xf1⟩ := U2.r.facts; obtain ⟨e0, e1, e2, e3⟩ := cells4 U2.e; have f0 := frozen_own U2.e 0; have f1 := frozen_own U2.e 1; have f2 := frozen_own U2.e 2; have f3 := frozen_own U2.e 3; have HU2 := Lib.hid (And.intro U2 hS2); clear U2 hb2 hS2))
  clear x0 x1 xf0 xf1 e0 e1 e2 e3 f0 f1 f2 f3
  obtain ⟨W2, hW2⟩ : ∃ W, W = ((w2.setCell ⟨g, 0, none⟩ (.slice A2 n2 c2)).setCell ⟨g, 1, none⟩ (.int .i64 (k2 : Int))).setCell ⟨g + 3, 1, none⟩ (.int .i64 (v2 : Int)) := ⟨_, rfl⟩
  have T2 := (HU2.out.1.setR (.slice A2 n2 c2) (.int .i64 (k2 : Int))).set1 (.int .i64 (v2 : Int))
  have S2 := HU2.out.2.below (show Below B w2 (((w2.setCell ⟨g, 0, none⟩ (.slice A2 n2 c2)).setCell ⟨g, 1, none⟩ (.int .i64 (k2 : Int))).setCell ⟨g + 3, 1, none⟩ (.int .i64 (v2 : Int))) from (((Below.refl B w2).setCell (p := ⟨g, 0, none⟩) HT0.out.2 _).setCell (p := ⟨g, 1, none⟩) HT0.out.2 _).setCell (p := ⟨g + 3, 1, none⟩) (by have := HT0.out.2; simp only; omega) _)
  rw [← hW2] at T2 S2 ⊢
  have HT2 := Lib.hid (And.intro T2 S2)
  clear T2 S2 hW2
  obtain ⟨x0, x1, xf0, xf1⟩ := HT2.out.1.r.facts
  go_upto_region 9 with (go_at_call 66; go_must (refine (C3.out A2 c2 _ (Nat.le_trans HT0.out.2 (Nat.le_of_lt HT2.out.1.r.lt)) HT2.out.2).mono ?_; rintro y w3 ⟨A3, c3, rfl, hS3, hb3⟩; have U3 := HT2.out.1.call hb3; obtain ⟨x0, x1, xf0, xf1⟩ := U3.r.facts; obtain ⟨e0, e1, e2, e3⟩ := cells4 U3.e; have f0 := frozen_own U3.e 0; have f1 := frozen_own U3.e 1; have f2 := frozen_own U3.e 2; have f3 := frozen_own U3.e 3; have HU3 := Lib.hid (And.intro U3 hS3); clear U3 hb3 hS3))
  clear x0 x1 xf0 xf1 e0 e1 e2 e3 f0 f1 f2 f3
  obtain ⟨W3, hW3⟩ : ∃ W, W = ((w3.setCell ⟨g, 0, none⟩ (.slice A3 n3 c3)).setCell ⟨g, 1, none⟩ (.int .i64 (k3 : Int))).setCell ⟨g + 3, 2, none⟩ (.int .i64 (v3 : Int)) := ⟨_, rfl⟩
  have T3 := (HU3.out.1.setR (.slice A3 n3 c3) (.int .i64 (k3 : Int))).set2 (.int .i64 (v3 : Int))
  have S3 := HU3.out.2.below (show Below B w3 (((w3.setCell ⟨g, 0, none⟩ (.slice A3 n3 c3)).setCell ⟨g, 1, none⟩ (.int .i64 (k3 : Int))).setCell ⟨g + 3, 2, none⟩ (.int .i64 (v3 : Int))) from (((Below.refl B w3).setCell (p := ⟨g, 0, none⟩) HT0.out.2 _).setCell (p := ⟨g, 1, none⟩) HT0.out.2 _).setCell (p := ⟨g + 3, 2, none⟩) (by have := HT0.out.2; simp only; omega) _)
  rw [← hW3] at T3 S3 ⊢
  have HT3 := Lib.hid (And.intro T3 S3)
  clear T3 S3 hW3
  obtain ⟨x0, x1, xf0, xf1⟩ := HT3.out.1.r.facts
  go_upto_region 10 with (go_at_call 34; go_must (refine (C4.out A3 c3 _ (Nat.le_trans HT0.out.2 (Nat.le_of_lt HT3.out.1.r.lt)) HT3.out.2).mono ?_; rintro y w4 ⟨A4, c4, Ab, cb, rfl, hS4, hX4, hb4⟩; have U4 := HT3.out.1.call hb4; obtain ⟨x0, x1, xf0, xf1⟩ := U4.r.facts; obtain ⟨e0, e1, e2, e3⟩ := cells4 U4.e; have f3 := frozen_own U4.e 3; have HU4 := Lib.hid (And.intro U4 (And.intro hS4 hX4)); clear U4 hb4 hS4 hX4))
  clear x0 x1 xf0 xf1 e0 e1 e2 e3 f3
  obtain ⟨W4, hW4⟩ : ∃ W, W = ((w4.setCell ⟨g, 0, none⟩ (.slice A4 n4 c4)).setCell ⟨g, 1, none⟩ (.int .i64 (k4' : Int))).setCell ⟨g + 3, 3, none⟩ (.slice Ab m cb) := ⟨_, rfl⟩
  have T4 := (HU4.out.1.setR (.slice A4 n4 c4) (.int .i64 (k4' : Int))).set3 (.slice Ab m cb)
  have bb : Below B w4 (((w4.setCell ⟨g, 0, none⟩ (.slice A4 n4 c4)).setCell ⟨g, 1, none⟩ (.int .i64 (k4' : Int))).setCell ⟨g + 3, 3, none⟩ (.slice Ab m cb)) := (((Below.refl B w4).setCell (p := ⟨g, 0, none⟩) HT0.out.2 _).setCell (p := ⟨g, 1, none⟩) HT0.out.2 _).setCell (p := ⟨g + 3, 3, none⟩) (by have := HT0.out.2; simp only; omega) _
  have S4 := HU4.out.2.1.below bb
  have X4 := HU4.out.2.2.below bb
  rw [← hW4] at T4 S4 X4 ⊢
  have HT4 := Lib.hid (And.intro T4 (And.intro S4 X4))
  clear T4 S4 X4 hW4 bb
  obtain ⟨x0, x1, xf0, xf1⟩ := HT4.out.1.r.facts
  obtain ⟨y0, y1, yf0, yf1⟩ := HT4.out.1.y.facts
  obtain ⟨z0, z1, z2, z3⟩ := cells4 HT4.out.1.z
  obtain ⟨e0, e1, e2, e3⟩ := cells4 HT4.out.1.e
  have zf0 := frozen_own HT4.out.1.z 0
  have zf1 := frozen_own HT4.out.1.z 1
  have zf2 := frozen_own HT4.out.1.z 2
  have zf3 := frozen_own HT4.out.1.z 3
  go_region
  go_wp2
  obtain ⟨F, hF, yF, zF, bF⟩ := take_end HT4.out.1 (.slice A4 n4 c4) (.int .i64 (k4' : Int)) (.int .i64 (v1 : Int)) (.int .i64 (v2 : Int)) (.int .i64 (v3 : Int)) (.slice Ab m cb)
  rw [← hF]
  clear hF
  clear y0 y1 z0 z1 z2 z3
  obtain ⟨y0, y1, -, -⟩ := yF.facts
  obtain ⟨z0, z1, z2, z3⟩ := cells4 zF
  have hb1 := bF B HT0.out.2
  have hb2 := HT4.out.1.bel.trans (bF g (Nat.le_refl _))
  have HF := Lib.hid (And.intro hb1 hb2)
  clear bF yF zF hb1 hb2
  refine bodyPost_ret (v := .tuple #[.agg #[.slice A4 n4 c4, .int .i64 (k4' : Int)], .agg #[.int .i64 (v1 : Int), .int .i64 (v2 : Int), .int .i64 (v3 : Int), .slice Ab m cb]]) ?_ rfl ⟨A4, c4, Ab, cb, rfl, HT4.out.2.1.below HF.out.1, HT4.out.2.2.below HF.out.1, by have := HF.out.2; rw [HG.out] at this; exact this⟩
  simp only [results, hres]
  go_simp

end Go.Proofs.YtfblgkcipnkhaaaGreatDoor.pk

/-
  The document's own reader: what bytes are as an entry.
-/
namespace Go.Proofs.YtfblgkcipnkhaaaGreatDoor.pk
open Go Go.RowKit
set_option maxRecDepth 100000

theorem dec_cases {b : List UInt8} {s4 : List UInt8} {k4 d k : Nat} {e e' : En} (ht : takeE (b, 0) = ((s4, k4), e)) (hd : d = doneR (s4, k4)) (hr : decE b = (e', k)) :
    (d ≠ 0 ∧ e' = ⟨0, 0, 0, []⟩ ∧ k = 3) ∨ (d = 0 ∧ e.index < 1 ∧ e' = ⟨0, 0, 0, []⟩ ∧ k = 3) ∨ (d = 0 ∧ ¬ e.index < 1 ∧ e.term < 1 ∧ e' = ⟨0, 0, 0, []⟩ ∧ k = 3) ∨ (d = 0 ∧ ¬ e.index < 1 ∧ ¬ e.term < 1 ∧ e' = e ∧ k = 0) := by
  unfold decE at hr
  simp only [ht, ← hd] at hr
  by_cases h0 : d = 0
  · by_cases h1 : e.index < 1
    · rw [if_pos (Or.inr (Or.inl h1))] at hr
      injection hr with a b
      exact Or.inr (Or.inl ⟨h0, h1, a.symm, b.symm⟩)
    · by_cases h2 : e.term < 1
      · rw [if_pos (Or.inr (Or.inr h2))] at hr
        injection hr with a b
        exact Or.inr (Or.inr (Or.inl ⟨h0, h1, h2, a.symm, b.symm⟩))
      · rw [if_neg (fun h => h.elim (fun h => h h0) fun h => h.elim h1 h2)] at hr
        injection hr with a b
        exact Or.inr (Or.inr (Or.inr ⟨h0, h1, h2, a.symm, b.symm⟩))
  · rw [if_pos (Or.inl h0)] at hr
    injection hr with a b
    exact Or.inl ⟨h0, a.symm, b.symm⟩

/-- Behind Take: the two boxes. -/
theorem dec_boxes {w w0 w1 : World} {g : Nat} {z0 z1 z2 z3 : Value} (u v a b c d : Value) (hw : g < w0.heap.size) (hz : E4 w0 g z0 z1 z2 z3) (hb0 : Below g w w0) (hb1 : Below w0.heap.size w0 w1) :
    ∃ W q, W = (w1.alloc (Obj.cells #[u, v] 63)).alloc (Obj.cells #[a, b, c, d] 71) ∧ q = w1.heap.size ∧ RB W q u v ∧ E4 W (q + 1) a b c d ∧ E4 W g z0 z1 z2 z3 ∧ Below g w W ∧ Below w1.heap.size w1 W := by
  have h1 := below_alloc w1 (Obj.cells #[u, v] 63)
  have h2 := below_alloc (w1.alloc (Obj.cells #[u, v] 63)) (Obj.cells #[a, b, c, d] 71)
  have hs1 := hb1.size
  have hsz : (w1.alloc (Obj.cells #[u, v] 63)).heap.size = w1.heap.size + 1 := World.size_alloc _ _
  have h12 : Below w1.heap.size w1 ((w1.alloc (Obj.cells #[u, v] 63)).alloc (Obj.cells #[a, b, c, d] 71)) := h1.trans (h2.mono (by omega))
  refine ⟨_, _, rfl, rfl, ?_, ?_, (hz.below hb1).below h12, (hb0.trans (hb1.mono (Nat.le_of_lt hw))).trans (h12.mono (by omega)), h12⟩
  · have r : RB (w1.alloc (Obj.cells #[u, v] 63)) w1.heap.size u v := heap_alloc_new w1 _
    exact r.below h2
  · unfold E4
    rw [← hsz]
    exact heap_alloc_new _ _

set_option maxHeartbeats 8000000 in
theorem RefDec_s (A : Option Addr) (n c : Nat) (b : List UInt8) (w : World) (B : Nat) (hB : B ≤ w.heap.size) (h : Sl w B (.slice A n c) b) (e : En) (k m : Nat) (hr : decE b = (e, k)) (hm : m = e.data.length) :
    Calls Tryz.prog 36 #[.slice A n c] w fun x w' => ∃ Ab cb, x = .returned (.tuple #[.agg #[.int .i64 e.index, .int .i64 e.term, .int .i64 e.kind, .slice Ab m cb], .int .i64 (k : Int)]) ∧ Sl w' B (.slice Ab m cb) e.data ∧ Below w.heap.size w w' := by
  rcases ht : takeE (b, 0) with ⟨⟨s4, k4⟩, e0⟩
  obtain ⟨n4, hn4⟩ : ∃ n4, n4 = s4.length := ⟨_, rfl⟩
  obtain ⟨m0, hm0⟩ : ∃ m0, m0 = e0.data.length := ⟨_, rfl⟩
  obtain ⟨d, hd⟩ : ∃ d, d = doneR (s4, k4) := ⟨_, rfl⟩
  obtain ⟨w0, g, hw0, hg, hb0, hz0, hsz⟩ := one_box w (.cells #[.int .i64 0, .int .i64 0, .int .i64 0, .slice none 0 0] 71)
  have hz : E4 w0 g (.int .i64 0) (.int .i64 0) (.int .i64 0) (.slice none 0 0) := hz0
  have HT := Lib.hid (Take_s A n c 0 b w0 B (Nat.le_trans hB hb0.size) (h.below (hb0.mono hB)) s4 k4 n4 m0 e0 ht hn4 hm0)
  have HD := Lib.hid fun A c W => RefDone_s A n4 c k4 s4 hn4 W d hd
  have HC := Lib.hid (dec_cases ht hd hr)
  have hgB : B ≤ g := by rw [hg]; exact hB
  have HZ := Lib.hid (And.intro hz (And.intro (show g < w0.heap.size by omega) (And.intro (show Below g w w0 by rw [hg]; exact hb0) (And.intro hgB (And.intro hm hm0)))))
  have HG := Lib.hid hg
  have HW := Lib.hid hw0
  have e00 : ((0 : Nat) : Int) = 0 := rfl
  rw [e00] at HT
  clear h ht hr hm hn4 hm0 hd hw0 hg hb0 hz0 hsz hz hgB hB
  go_enter Tryz.func36, Tryz.ntmps36
  go_upto_region 1 with fail
  rw [← HW.out, ← HG.out]
  go_upto_region 2 with (go_at_call 69; go_must (refine HT.out.mono ?_; rintro y w1 ⟨A1, c1, A2, c2, rfl, hS1, hS2, hb1⟩; obtain ⟨W, q, hW, hq, hrb, heb, hzb, hbW, hb1W⟩ := dec_boxes (.slice A1 n4 c1) (.int .i64 (k4 : Int)) (.int .i64 e0.index) (.int .i64 e0.term) (.int .i64 e0.kind) (.slice A2 m0 c2) HZ.out.2.1 HZ.out.1 HZ.out.2.2.1 hb1; have HQ := Lib.hid (And.intro hW hq); have HX := Lib.hid (And.intro hrb (And.intro heb (And.intro hzb (And.intro hbW (hS2.below (hb1W.mono (Nat.le_trans HZ.out.2.2.2.1 (Nat.le_trans (Nat.le_of_lt HZ.out.2.1) hb1.size)))))))); clear hW hq hrb heb hzb hbW hb1W hb1 hS1 hS2))
  rw [← HQ.out.1, ← HQ.out.2]
  obtain ⟨x0, x1, xf0, xf1⟩ := HX.out.1.facts
  obtain ⟨e0c, e1c, e2c, e3c⟩ := cells4 HX.out.2.1
  have HDD := Lib.hid (HD.out A1 c1 W)
  have fin : ∀ (W2 : World) (a b c d : Value), Below W.heap.size W W2 → ∃ F, F = put4 W2 g a b c d ∧ E4 F g a b c d ∧ Below w.heap.size w F ∧ Below B W F := fun W2 a b c d hb => by
    have hg := HG.out
    have h1 := HX.out.2.2.1.below hb
    refine ⟨_, rfl, put4_own h1 _ _ _ _, ?_, ?_⟩
    · rw [← hg]
      exact put4_below (HX.out.2.2.2.1.trans (hb.mono (Nat.le_of_lt HX.out.2.2.1.lt))) (Nat.le_refl _)
    · exact put4_below (hb.mono (Nat.le_trans HZ.out.2.2.2.1 (Nat.le_of_lt HX.out.2.2.1.lt))) HZ.out.2.2.2.1
  have FIN := Lib.hid fin
  clear fin
  have hzf := fun (W2 : World) (hb : Below W.heap.size W W2) => frozen_own (HX.out.2.2.1.below hb)
  have HZF := Lib.hid hzf
  have HXB := Lib.hid fun (W2 : World) (hb : Below W.heap.size W W2) => cells4 (HX.out.2.1.below hb)
  have HZC := Lib.hid fun (W2 : World) (hb : Below W.heap.size W W2) => cells4 (HX.out.2.2.1.below hb)
  clear hzf e0c e1c e2c e3c
  rcases HC.out with ⟨c0, r1, r2⟩ | ⟨c0, ci, r1, r2⟩ | ⟨c0, ci, ct, r1, r2⟩ | ⟨c0, ci, ct, r1, r2⟩
  · have hz : ((d : Int) != 0) = true := by simp; omega
    have HR := Lib.hid (And.intro r1 r2)
    clear c0 r1 r2
    go_wp2_with (go_at_call 37; go_must (refine HDD.out.mono ?_; rintro y W2 ⟨rfl, hb2⟩; obtain ⟨e0c, e1c, e2c, e3c⟩ := HXB.out W2 hb2; obtain ⟨z0c, z1c, z2c, z3c⟩ := HZC.out W2 hb2; have f0 := HZF.out W2 hb2 0; have f1 := HZF.out W2 hb2 1; have f2 := HZF.out W2 hb2 2; have f3 := HZF.out W2 hb2 3; have HB2 := Lib.hid hb2; clear hb2))
    obtain ⟨F, hF, hE, hbF, hbG⟩ := FIN.out W2 (.int .i64 0) (.int .i64 0) (.int .i64 0) (.slice none 0 0) HB2.out
    unfold put4 at hF
    rw [← hF]
    clear hF z0c z1c z2c z3c
    obtain ⟨z0c, z1c, z2c, z3c⟩ := cells4 hE
    have hm := HZ.out.2.2.2.2.1
    rw [HR.out.1] at hm
    have hm' : m = 0 := hm
    rw [HR.out.1, HR.out.2, hm']
    exact bodyPost_ret (v := .tuple #[.agg #[.int .i64 0, .int .i64 0, .int .i64 0, .slice none 0 0], .int .i64 3]) (by simp [results, Tryz.results36, go_sem, z0c, z1c, z2c, z3c]) rfl ⟨none, 0, rfl, Sl.nil_ _ _, hbF⟩
  · subst c0
    have HR := Lib.hid (And.intro r1 r2)
    clear r1 r2
    go_wp2_with (go_at_call 37; go_must (refine HDD.out.mono ?_; rintro y W2 ⟨rfl, hb2⟩; obtain ⟨e0c, e1c, e2c, e3c⟩ := HXB.out W2 hb2; obtain ⟨z0c, z1c, z2c, z3c⟩ := HZC.out W2 hb2; have f0 := HZF.out W2 hb2 0; have f1 := HZF.out W2 hb2 1; have f2 := HZF.out W2 hb2 2; have f3 := HZF.out W2 hb2 3; have HB2 := Lib.hid hb2; clear hb2))
    obtain ⟨F, hF, hE, hbF, hbG⟩ := FIN.out W2 (.int .i64 0) (.int .i64 0) (.int .i64 0) (.slice none 0 0) HB2.out
    unfold put4 at hF
    rw [← hF]
    clear hF z0c z1c z2c z3c
    obtain ⟨z0c, z1c, z2c, z3c⟩ := cells4 hE
    have hm := HZ.out.2.2.2.2.1
    rw [HR.out.1] at hm
    have hm' : m = 0 := hm
    rw [HR.out.1, HR.out.2, hm']
    exact bodyPost_ret (v := .tuple #[.agg #[.int .i64 0, .int .i64 0, .int .i64 0, .slice none 0 0], .int .i64 3]) (by simp [results, Tryz.results36, go_sem, z0c, z1c, z2c, z3c]) rfl ⟨none, 0, rfl, Sl.nil_ _ _, hbF⟩
  · subst c0
    have HR := Lib.hid (And.intro r1 r2)
    clear r1 r2
    go_wp2_with (go_at_call 37; go_must (refine HDD.out.mono ?_; rintro y W2 ⟨rfl, hb2⟩; obtain ⟨e0c, e1c, e2c, e3c⟩ := HXB.out W2 hb2; obtain ⟨z0c, z1c, z2c, z3c⟩ := HZC.out W2 hb2; have f0 := HZF.out W2 hb2 0; have f1 := HZF.out W2 hb2 1; have f2 := HZF.out W2 hb2 2; have f3 := HZF.out W2 hb2 3; have HB2 := Lib.hid hb2; clear hb2))
    obtain ⟨F, hF, hE, hbF, hbG⟩ := FIN.out W2 (.int .i64 0) (.int .i64 0) (.int .i64 0) (.slice none 0 0) HB2.out
    unfold put4 at hF
    rw [← hF]
    clear hF z0c z1c z2c z3c
    obtain ⟨z0c, z1c, z2c, z3c⟩ := cells4 hE
    have hm := HZ.out.2.2.2.2.1
    rw [HR.out.1] at hm
    have hm' : m = 0 := hm
    rw [HR.out.1, HR.out.2, hm']
    exact bodyPost_ret (v := .tuple #[.agg #[.int .i64 0, .int .i64 0, .int .i64 0, .slice none 0 0], .int .i64 3]) (by simp [results, Tryz.results36, go_sem, z0c, z1c, z2c, z3c]) rfl ⟨none, 0, rfl, Sl.nil_ _ _, hbF⟩
  · subst c0
    have HR := Lib.hid (And.intro r1 r2)
    clear r1 r2
    go_wp2_with (go_at_call 37; go_must (refine HDD.out.mono ?_; rintro y W2 ⟨rfl, hb2⟩; obtain ⟨e0c, e1c, e2c, e3c⟩ := HXB.out W2 hb2; obtain ⟨z0c, z1c, z2c, z3c⟩ := HZC.out W2 hb2; have f0 := HZF.out W2 hb2 0; have f1 := HZF.out W2 hb2 1; have f2 := HZF.out W2 hb2 2; have f3 := HZF.out W2 hb2 3; have HB2 := Lib.hid hb2; clear hb2))
    obtain ⟨F, hF, hE, hbF, hbG⟩ := FIN.out W2 (.int .i64 e0.index) (.int .i64 e0.term) (.int .i64 e0.kind) (.slice A2 m0 c2) HB2.out
    unfold put4 at hF
    rw [← hF]
    clear hF z0c z1c z2c z3c
    obtain ⟨z0c, z1c, z2c, z3c⟩ := cells4 hE
    have hm := HZ.out.2.2.2.2.1
    rw [HR.out.1, ← HZ.out.2.2.2.2.2] at hm
    rw [HR.out.1, HR.out.2, hm]
    exact bodyPost_ret (v := .tuple #[.agg #[.int .i64 e0.index, .int .i64 e0.term, .int .i64 e0.kind, .slice A2 m0 c2], .int .i64 0]) (by simp [results, Tryz.results36, go_sem, z0c, z1c, z2c, z3c]) rfl ⟨A2, c2, rfl, HX.out.2.2.2.2.below hbG, hbF⟩

end Go.Proofs.YtfblgkcipnkhaaaGreatDoor.pk

/-
  The document's own words of a message: may it be.
-/
namespace Go.Proofs.YtfblgkcipnkhaaaGreatDoor.pk
open Go Go.RowKit
set_option maxRecDepth 100000

theorem cells12 {w : World} {b t : Nat} {v0 v1 v2 v3 v4 v5 v6 v7 v8 v9 v10 v11 : Value} (h : w.heap[b]? = some (.cells #[v0, v1, v2, v3, v4, v5, v6, v7, v8, v9, v10, v11] t (0, 0))) : w.cell? ⟨b, 0, none⟩ = some v0 ∧ w.cell? ⟨b, 1, none⟩ = some v1 ∧ w.cell? ⟨b, 2, none⟩ = some v2 ∧ w.cell? ⟨b, 3, none⟩ = some v3 ∧ w.cell? ⟨b, 4, none⟩ = some v4 ∧ w.cell? ⟨b, 5, none⟩ = some v5 ∧ w.cell? ⟨b, 6, none⟩ = some v6 ∧ w.cell? ⟨b, 7, none⟩ = some v7 ∧ w.cell? ⟨b, 8, none⟩ = some v8 ∧ w.cell? ⟨b, 9, none⟩ = some v9 ∧ w.cell? ⟨b, 10, none⟩ = some v10 ∧ w.cell? ⟨b, 11, none⟩ = some v11 :=
  ⟨by rw [cell_of_row w b 0 _ _ _ h]; rfl, by rw [cell_of_row w b 1 _ _ _ h]; rfl, by rw [cell_of_row w b 2 _ _ _ h]; rfl, by rw [cell_of_row w b 3 _ _ _ h]; rfl, by rw [cell_of_row w b 4 _ _ _ h]; rfl, by rw [cell_of_row w b 5 _ _ _ h]; rfl, by rw [cell_of_row w b 6 _ _ _ h]; rfl, by rw [cell_of_row w b 7 _ _ _ h]; rfl, by rw [cell_of_row w b 8 _ _ _ h]; rfl, by rw [cell_of_row w b 9 _ _ _ h]; rfl, by rw [cell_of_row w b 10 _ _ _ h]; rfl, by rw [cell_of_row w b 11 _ _ _ h]; rfl⟩

theorem in_any (n lo hi : Int) (w : World) (b : Bool) (hb : b = rg n lo hi) : Calls Tryz.prog 41 #[.int .i64 n, .int .i64 lo, .int .i64 hi] w fun y w' => y = .returned (.bool b) ∧ w = w' := by
  have HB := Lib.hid hb
  clear hb
  have hc : ¬ lo ≤ n ∨ (lo ≤ n ∧ ¬ n ≤ hi) ∨ (lo ≤ n ∧ n ≤ hi) := by omega
  rcases hc with h1 | ⟨h1, h2⟩ | ⟨h1, h2⟩
  all_goals
    go_enter Tryz.func41, Tryz.ntmps41
    go_wp2_with fail
    go_ret
    exact ⟨ret_bool (by rw [HB.out]; unfold rg; first | exact (decide_eq_true (by omega)).symm | exact (decide_eq_false (by omega)).symm), rfl⟩

theorem rg_false {n lo hi : Int} : rg n lo hi = false ↔ ¬ (lo ≤ n ∧ n ≤ hi) := by unfold rg; exact decide_eq_false_iff_not
theorem fitM_eq (e : En) : fitM e = (rg e.index 1 1099511627776 && rg e.term 1 1099511627776 && rg e.kind 0 2 && decide (e.data.length ≤ 4096)) := by
  rw [Bool.eq_iff_iff, Bool.and_eq_true, Bool.and_eq_true, Bool.and_eq_true, fitM_iff, rg_iff, rg_iff, rg_iff, decide_eq_true_iff]
  constructor <;> (intro h; omega)

/-- What a message's call is given. -/
structure InM (m : Ms) (Ad : Option Addr) (nd cd : Nat) (Ae : Option Addr) (ne ce : Nat) (w : World) : Prop where
  data : Bys w (.slice Ad nd cd) m.data
  ents : Ents w (.slice Ae ne ce) m.ents
  i0 : inI m.kind ∧ inI m.frm ∧ inI m.to ∧ inI m.term ∧ inI m.index ∧ inI m.logTerm ∧ inI m.commit ∧ inI m.round ∧ inI m.off
theorem InM.below {m : Ms} {Ad : Option Addr} {nd cd : Nat} {Ae : Option Addr} {ne ce : Nat} {w w' : World} (h : InM m Ad nd cd Ae ne ce w) (hb : Below w.heap.size w w') : InM m Ad nd cd Ae ne ce w' := ⟨h.data.below hb, h.ents.below hb, h.i0⟩

set_option maxHeartbeats 8000000 in
theorem May_no1 (m : Ms) (Ad : Option Addr) (nd cd : Nat) (Ae : Option Addr) (ne ce : Nat) (w : World) (hm : mayM1 m = false) :
    Calls Tryz.prog 15 #[.agg #[.int .i64 m.kind, .int .i64 m.frm, .int .i64 m.to, .int .i64 m.term, .int .i64 m.index, .int .i64 m.logTerm, .int .i64 m.commit, .int .i64 m.round, .bool m.ok, .int .i64 m.off, .slice Ad nd cd, .slice Ae ne ce]] w fun y w' => y = .returned (.bool false) ∧ Below w.heap.size w w' := by
  obtain ⟨W1, g, hW1, hg, hb1, hq, hsz⟩ := one_box w (.cells #[.int .i64 m.kind, .int .i64 m.frm, .int .i64 m.to, .int .i64 m.term, .int .i64 m.index, .int .i64 m.logTerm, .int .i64 m.commit, .int .i64 m.round, .bool m.ok, .int .i64 m.off, .slice Ad nd cd, .slice Ae ne ce] 25)
  have HW := Lib.hid (And.intro hW1 hg)
  have HE := Lib.hid hb1
  obtain ⟨z0, z1, z2, z3, z4, z5, z6, z7, z8, z9, z10, z11⟩ := cells12 hq
  have C0 := Lib.hid fun n lo hi => in_any n lo hi W1 _ rfl
  have hcase : (rg m.kind 1 6 = false) ∨ (rg m.kind 1 6 = true ∧ rg m.frm 1 64 = false) ∨ (rg m.kind 1 6 = true ∧ rg m.frm 1 64 = true ∧ rg m.to 1 64 = false) ∨ (rg m.kind 1 6 = true ∧ rg m.frm 1 64 = true ∧ rg m.to 1 64 = true ∧ (m.frm == m.to) = true) ∨
      (rg m.kind 1 6 = true ∧ rg m.frm 1 64 = true ∧ rg m.to 1 64 = true ∧ (m.frm == m.to) = false ∧ rg m.term 1 1099511627776 = false) := by
    unfold mayM1 at hm
    cases a1 : rg m.kind 1 6 with
    | false => exact Or.inl rfl
    | true =>
      cases a2 : rg m.frm 1 64 with
      | false => exact Or.inr (Or.inl ⟨rfl, rfl⟩)
      | true =>
        cases a3 : rg m.to 1 64 with
        | false => exact Or.inr (Or.inr (Or.inl ⟨rfl, rfl, rfl⟩))
        | true =>
          by_cases a4 : m.frm = m.to
          · exact Or.inr (Or.inr (Or.inr (Or.inl ⟨rfl, rfl, rfl, beq_iff_eq.2 a4⟩)))
          · rw [a1, a2, a3, decide_eq_true a4] at hm
            exact Or.inr (Or.inr (Or.inr (Or.inr ⟨rfl, rfl, rfl, beq_eq_false_iff_ne.2 a4, by simpa using hm⟩)))
  clear hW1 hg hb1 hq hsz hm
  rcases hcase with h1 | ⟨h1, h2⟩ | ⟨h1, h2, h3⟩ | ⟨h1, h2, h3, h4⟩ | ⟨h1, h2, h3, h4, h5⟩
  all_goals
    go_enter Tryz.func15, Tryz.ntmps15
    go_upto_region 1 with fail
    rw [← HW.out.1, ← HW.out.2]
    go_wp2_with (go_at_call 41; go_must (refine (C0.out _ _ _).mono ?_; rintro y w1 ⟨rfl, rfl⟩))
    go_ret
    exact ⟨rfl, HE.out⟩


set_option maxHeartbeats 8000000 in
theorem May_no2 (m : Ms) (Ad : Option Addr) (nd cd : Nat) (Ae : Option Addr) (ne ce : Nat) (w : World) (h : InM m Ad nd cd Ae ne ce w) (hm1 : mayM1 m = true) (hm : mayM2 m = false) :
    Calls Tryz.prog 15 #[.agg #[.int .i64 m.kind, .int .i64 m.frm, .int .i64 m.to, .int .i64 m.term, .int .i64 m.index, .int .i64 m.logTerm, .int .i64 m.commit, .int .i64 m.round, .bool m.ok, .int .i64 m.off, .slice Ad nd cd, .slice Ae ne ce]] w fun y w' => y = .returned (.bool false) ∧ Below w.heap.size w w' := by
  have hnd := h.data.len_
  obtain ⟨hne, hne1, hne2⟩ := h.ents.len_
  have in1 : (nd : Int) ≤ 9223372036854775807 := by obtain ⟨A', c', hv, h1, h2⟩ := h.data.form; injection hv with _ e2 e3; omega
  have in2 : (ne : Int) ≤ 9223372036854775807 := by omega
  obtain ⟨W1, g, hW1, hg, hb1, hq, hsz⟩ := one_box w (.cells #[.int .i64 m.kind, .int .i64 m.frm, .int .i64 m.to, .int .i64 m.term, .int .i64 m.index, .int .i64 m.logTerm, .int .i64 m.commit, .int .i64 m.round, .bool m.ok, .int .i64 m.off, .slice Ad nd cd, .slice Ae ne ce] 25)
  have HW := Lib.hid (And.intro hW1 hg)
  have HE := Lib.hid hb1
  obtain ⟨z0, z1, z2, z3, z4, z5, z6, z7, z8, z9, z10, z11⟩ := cells12 hq
  have C0 := Lib.hid fun n lo hi => in_any n lo hi W1 _ rfl
  unfold mayM1 at hm1
  simp only [Bool.and_eq_true, decide_eq_true_eq] at hm1
  obtain ⟨⟨⟨⟨g1, g2⟩, g3⟩, g4⟩, g5⟩ := hm1
  have g4 := beq_eq_false_iff_ne.2 g4
  have hcase : (rg m.index 0 1099511627776 = false) ∨ (rg m.index 0 1099511627776 = true ∧ rg m.logTerm 0 1099511627776 = false) ∨ (rg m.index 0 1099511627776 = true ∧ rg m.logTerm 0 1099511627776 = true ∧ rg m.commit 0 1099511627776 = false) ∨ (rg m.index 0 1099511627776 = true ∧ rg m.logTerm 0 1099511627776 = true ∧ rg m.commit 0 1099511627776 = true ∧ rg m.round 0 1099511627776 = false) ∨
      (rg m.index 0 1099511627776 = true ∧ rg m.logTerm 0 1099511627776 = true ∧ rg m.commit 0 1099511627776 = true ∧ rg m.round 0 1099511627776 = true ∧ rg m.off 0 1099511627776 = false) ∨
      (rg m.index 0 1099511627776 = true ∧ rg m.logTerm 0 1099511627776 = true ∧ rg m.commit 0 1099511627776 = true ∧ rg m.round 0 1099511627776 = true ∧ rg m.off 0 1099511627776 = true ∧ (4096 : Int) < (nd : Int)) ∨
      (rg m.index 0 1099511627776 = true ∧ rg m.logTerm 0 1099511627776 = true ∧ rg m.commit 0 1099511627776 = true ∧ rg m.round 0 1099511627776 = true ∧ rg m.off 0 1099511627776 = true ∧ ¬ (4096 : Int) < (nd : Int) ∧ (64 : Int) < (ne : Int)) := by
    unfold mayM2 at hm
    cases a1 : rg m.index 0 1099511627776 with
    | false => exact Or.inl rfl
    | true =>
      cases a2 : rg m.logTerm 0 1099511627776 with
      | false => exact Or.inr (Or.inl ⟨rfl, rfl⟩)
      | true =>
        cases a3 : rg m.commit 0 1099511627776 with
        | false => exact Or.inr (Or.inr (Or.inl ⟨rfl, rfl, rfl⟩))
        | true =>
          cases a4 : rg m.round 0 1099511627776 with
          | false => exact Or.inr (Or.inr (Or.inr (Or.inl ⟨rfl, rfl, rfl, rfl⟩)))
          | true =>
            cases a5 : rg m.off 0 1099511627776 with
            | false => exact Or.inr (Or.inr (Or.inr (Or.inr (Or.inl ⟨rfl, rfl, rfl, rfl, rfl⟩))))
            | true =>
              by_cases a6 : 4096 < nd
              · exact Or.inr (Or.inr (Or.inr (Or.inr (Or.inr (Or.inl ⟨rfl, rfl, rfl, rfl, rfl, by omega⟩)))))
              · by_cases a7 : 64 < ne
                · exact Or.inr (Or.inr (Or.inr (Or.inr (Or.inr (Or.inr ⟨rfl, rfl, rfl, rfl, rfl, by omega, by omega⟩)))))
                · rw [a1, a2, a3, a4, a5, decide_eq_true (by omega), decide_eq_true (by omega)] at hm
                  cases hm
  clear hW1 hg hb1 hq hsz hm h hnd hne hne1 hne2
  rcases hcase with h1 | ⟨h1, h2⟩ | ⟨h1, h2, h3⟩ | ⟨h1, h2, h3, h4⟩ | ⟨h1, h2, h3, h4, h5⟩ | ⟨h1, h2, h3, h4, h5, h6⟩ | ⟨h1, h2, h3, h4, h5, h6, h7⟩
  all_goals
    go_enter Tryz.func15, Tryz.ntmps15
    go_upto_region 1 with fail
    rw [← HW.out.1, ← HW.out.2]
    go_wp2_with (go_at_call 41; go_must (refine (C0.out _ _ _).mono ?_; rintro y w1 ⟨rfl, rfl⟩))
    go_ret
    exact ⟨rfl, HE.out⟩

set_option maxHeartbeats 8000000 in
theorem May_yes (m : Ms) (Ad : Option Addr) (nd cd : Nat) (Ae : Option Addr) (ne ce : Nat) (w : World) (h : InM m Ad nd cd Ae ne ce w) (hm1 : mayM1 m = true) (hm : mayM2 m = true) (b : Bool) (hb : b = m.ents.all fitM) :
    Calls Tryz.prog 15 #[.agg #[.int .i64 m.kind, .int .i64 m.frm, .int .i64 m.to, .int .i64 m.term, .int .i64 m.index, .int .i64 m.logTerm, .int .i64 m.commit, .int .i64 m.round, .bool m.ok, .int .i64 m.off, .slice Ad nd cd, .slice Ae ne ce]] w fun y w' => y = .returned (.bool b) ∧ Below w.heap.size w w' := by
  have hnd := h.data.len_
  obtain ⟨hne, hne1, hne2⟩ := h.ents.len_
  have in1 : (nd : Int) ≤ 9223372036854775807 := by obtain ⟨A', c', hv, h1, h2⟩ := h.data.form; injection hv with _ e2 e3; omega
  have in2 : (ne : Int) ≤ 9223372036854775807 := by omega
  obtain ⟨W1, g, hW1, hg, hb1, hq, hsz⟩ := one_box w (.cells #[.int .i64 m.kind, .int .i64 m.frm, .int .i64 m.to, .int .i64 m.term, .int .i64 m.index, .int .i64 m.logTerm, .int .i64 m.commit, .int .i64 m.round, .bool m.ok, .int .i64 m.off, .slice Ad nd cd, .slice Ae ne ce] 25)
  have HW := Lib.hid (And.intro hW1 hg)
  have HH := Lib.hid (And.intro hb1 (And.intro hq (And.intro (h.ents.below hb1) (And.intro hne hb))))
  obtain ⟨z0, z1, z2, z3, z4, z5, z6, z7, z8, z9, z10, z11⟩ := cells12 hq
  have C0 := Lib.hid fun n lo hi W => in_any n lo hi W _ rfl
  unfold mayM1 at hm1
  simp only [Bool.and_eq_true, decide_eq_true_eq] at hm1
  obtain ⟨⟨⟨⟨g1, g2⟩, g3⟩, g4⟩, g5⟩ := hm1
  have g4 := beq_eq_false_iff_ne.2 g4
  unfold mayM2 at hm
  simp only [Bool.and_eq_true, decide_eq_true_eq] at hm
  obtain ⟨⟨⟨⟨⟨⟨h1, h2⟩, h3⟩, h4⟩, h5⟩, h6⟩, h7⟩ := hm
  have h6 : ¬ (4096 : Int) < (nd : Int) := by omega
  have h7 : ¬ (64 : Int) < (ne : Int) := by omega
  clear hW1 hg hb1 hq hsz h hnd hne hne1 hne2 hb
  go_enter Tryz.func15, Tryz.ntmps15
  go_upto_region 1 with fail
  rw [← HW.out.1, ← HW.out.2]
  go_wp2_with (go_at_call 41; go_must (refine (C0.out _ _ _ _).mono ?_; rintro y w1 ⟨rfl, rfl⟩))
  go_loopw [3] (fun ii wr => ∃ j : Nat, j ≤ ne ∧ ii = .int .i64 (j : Int) ∧ Hid (b = (m.ents.drop j).all fitM) ∧ Below W1.heap.size W1 wr) (fun ii _ => ne - (intOf ii).toNat)
  case atStart => exact ⟨0, Nat.zero_le _, rfl, Lib.hid (by rw [List.drop_zero]; exact HH.out.2.2.2.2), Below.refl _ _⟩
  case round =>
    obtain ⟨j, hj, rfl, HB, hbw⟩ := hrel
    obtain ⟨z0, z1, z2, z3, z4, z5, z6, z7, z8, z9, z10, z11⟩ := cells12 ((hbw.block g (obj_lt HH.out.2.1)).trans HH.out.2.1)
    have HBW := Lib.hid hbw
    by_cases hlt : j < ne
    · have ii : (j : Int) < (ne : Int) := by omega
      have ii0 : (0 : Int) ≤ (j : Int) := by omega
      have hjl : j < m.ents.length := by have := HH.out.2.2.2.1; omega
      obtain ⟨bk, off, Ax, cx, rfl, hbb, hok, q0, q1, q2, q3, -⟩ := HH.out.2.2.1.at_ j hjl
      have hbd : (m.ents.drop j).all fitM = (fitM m.ents[j] && (m.ents.drop (j + 1)).all fitM) := by rw [List.drop_eq_getElem_cons hjl, List.all_cons]
      obtain ⟨e, he⟩ : ∃ e, e = m.ents[j] := ⟨_, rfl⟩
      rw [← he] at q0 q1 q2 q3 hbd hok
      rw [← HB.out, fitM_eq] at hbd
      obtain ⟨n, hn⟩ : ∃ n, n = e.data.length := ⟨_, rfl⟩
      rw [← hn] at q3 hbd
      have p0 := (hbw.cell (p := ⟨bk, off + j * 4, none⟩) hbb).trans q0
      have p1 := (hbw.cell (p := ⟨bk, off + j * 4 + 1, none⟩) hbb).trans q1
      have p2 := (hbw.cell (p := ⟨bk, off + j * 4 + 2, none⟩) hbb).trans q2
      have p3 := (hbw.cell (p := ⟨bk, off + j * 4 + 3, none⟩) hbb).trans q3
      have hsl : n ≤ 9223372036854775807 := by
        have := HH.out.2.2.1.at_ j hjl
        obtain ⟨_, _, Ay, cy, _, _, _, _, _, _, _, hS⟩ := this
        have := hS.form
        obtain ⟨A', c', hv, h1, h2⟩ := this
        injection hv with _ e2 e3
        rw [hn, he]
        omega
      have in3 : (n : Int) ≤ 9223372036854775807 := by omega
      have HBF := Lib.hid (hbw.trans ((below_alloc wr (.cells #[.int .i64 e.index, .int .i64 e.term, .int .i64 e.kind, .slice Ax n cx] 71)).mono hbw.size))
      have hcase : (rg e.index 1 1099511627776 = false ∧ b = false) ∨ (rg e.index 1 1099511627776 = true ∧ rg e.term 1 1099511627776 = false ∧ b = false) ∨ (rg e.index 1 1099511627776 = true ∧ rg e.term 1 1099511627776 = true ∧ rg e.kind 0 2 = false ∧ b = false) ∨ (rg e.index 1 1099511627776 = true ∧ rg e.term 1 1099511627776 = true ∧ rg e.kind 0 2 = true ∧ (4096 : Int) < (n : Int) ∧ b = false) ∨
          (rg e.index 1 1099511627776 = true ∧ rg e.term 1 1099511627776 = true ∧ rg e.kind 0 2 = true ∧ ¬ (4096 : Int) < (n : Int) ∧ b = (m.ents.drop (j + 1)).all fitM) := by
        cases a1 : rg e.index 1 1099511627776 with
        | false => rw [a1] at hbd; exact Or.inl ⟨rfl, by simpa using hbd⟩
        | true =>
          cases a2 : rg e.term 1 1099511627776 with
          | false => rw [a1, a2] at hbd; exact Or.inr (Or.inl ⟨rfl, rfl, by simpa using hbd⟩)
          | true =>
            cases a3 : rg e.kind 0 2 with
            | false => rw [a1, a2, a3] at hbd; exact Or.inr (Or.inr (Or.inl ⟨rfl, rfl, rfl, by simpa using hbd⟩))
            | true =>
              by_cases a4 : n ≤ 4096
              · rw [a1, a2, a3, decide_eq_true a4] at hbd; exact Or.inr (Or.inr (Or.inr (Or.inr ⟨rfl, rfl, rfl, by omega, by simpa using hbd⟩)))
              · rw [a1, a2, a3, decide_eq_false a4] at hbd; exact Or.inr (Or.inr (Or.inr (Or.inl ⟨rfl, rfl, rfl, by omega, by simpa using hbd⟩)))
      clear hbb q0 q1 q2 q3 hbd he hbw hjl hok hn hsl
      rcases hcase with ⟨c1, c2⟩ | ⟨c1, c2, c3⟩ | ⟨c1, c2, c3, c4⟩ | ⟨c1, c2, c3, c4, c5⟩ | ⟨c1, c2, c3, c4, c5⟩
      case inr.inr.inr.inr =>
        have HR := Lib.hid c5
        clear c5
        go_wp2_with (go_at_call 41; go_must (refine (C0.out _ _ _ _).mono ?_; rintro y w1 ⟨rfl, rfl⟩))
        go_roundw
        case rel => exact ⟨j + 1, by omega, by go_num, HR, HBF.out⟩
        case measure => simp [intOf]; omega
      case inl =>
        have HR := Lib.hid c2
        clear c2
        go_wp2_with (go_at_call 41; go_must (refine (C0.out _ _ _ _).mono ?_; rintro y w1 ⟨rfl, rfl⟩))
        go_ret
        exact ⟨ret_bool HR.out.symm, HH.out.1.trans (HBF.out.mono HH.out.1.size)⟩
      case inr.inl =>
        have HR := Lib.hid c3
        clear c3
        go_wp2_with (go_at_call 41; go_must (refine (C0.out _ _ _ _).mono ?_; rintro y w1 ⟨rfl, rfl⟩))
        go_ret
        exact ⟨ret_bool HR.out.symm, HH.out.1.trans (HBF.out.mono HH.out.1.size)⟩
      case inr.inr.inl =>
        have HR := Lib.hid c4
        clear c4
        go_wp2_with (go_at_call 41; go_must (refine (C0.out _ _ _ _).mono ?_; rintro y w1 ⟨rfl, rfl⟩))
        go_ret
        exact ⟨ret_bool HR.out.symm, HH.out.1.trans (HBF.out.mono HH.out.1.size)⟩
      case inr.inr.inr.inl =>
        have HR := Lib.hid c5
        clear c5
        go_wp2_with (go_at_call 41; go_must (refine (C0.out _ _ _ _).mono ?_; rintro y w1 ⟨rfl, rfl⟩))
        go_ret
        exact ⟨ret_bool HR.out.symm, HH.out.1.trans (HBF.out.mono HH.out.1.size)⟩
    · obtain rfl : j = ne := by omega
      have ii : ¬ (j : Int) < (j : Int) := by omega
      have hbt : b = true := by rw [HB.out, List.drop_eq_nil_of_le (by have := HH.out.2.2.2.1; omega)]; rfl
      have HR := Lib.hid hbt
      clear hbt
      go_wp2_with fail
      go_ret
      exact ⟨ret_bool HR.out.symm, HH.out.1.trans (HBW.out.mono HH.out.1.size)⟩

theorem May_m (m : Ms) (Ad : Option Addr) (nd cd : Nat) (Ae : Option Addr) (ne ce : Nat) (w : World) (h : InM m Ad nd cd Ae ne ce w) (b : Bool) (hb : b = mayM m) :
    Calls Tryz.prog 15 #[.agg #[.int .i64 m.kind, .int .i64 m.frm, .int .i64 m.to, .int .i64 m.term, .int .i64 m.index, .int .i64 m.logTerm, .int .i64 m.commit, .int .i64 m.round, .bool m.ok, .int .i64 m.off, .slice Ad nd cd, .slice Ae ne ce]] w fun y w' => y = .returned (.bool b) ∧ Below w.heap.size w w' := by
  unfold mayM at hb
  cases h1 : mayM1 m with
  | false => rw [h1, Bool.false_and, Bool.false_and] at hb; subst hb; exact May_no1 m Ad nd cd Ae ne ce w h1
  | true =>
    cases h2 : mayM2 m with
    | false => rw [h1, h2, Bool.true_and, Bool.false_and] at hb; subst hb; exact May_no2 m Ad nd cd Ae ne ce w h h1 h2
    | true => rw [h1, h2, Bool.true_and, Bool.true_and] at hb; exact May_yes m Ad nd cd Ae ne ce w h h1 h2 b hb

end Go.Proofs.YtfblgkcipnkhaaaGreatDoor.pk

/-
  The law's own copy of a message; how long one is.
-/
namespace Go.Proofs.YtfblgkcipnkhaaaGreatDoor.pk
open Go Go.RowKit
set_option maxRecDepth 100000

theorem put12 {w : World} {b t : Nat} {u0 u1 u2 u3 u4 u5 u6 u7 u8 u9 u10 u11 : Value} (h : w.heap[b]? = some (.cells #[u0, u1, u2, u3, u4, u5, u6, u7, u8, u9, u10, u11] t (0, 0))) (v0 v1 v2 v3 v4 v5 v6 v7 v8 v9 v10 v11 : Value) :
    ∃ F, F = ((((((((((((w.setCell ⟨b, 0, none⟩ v0).setCell ⟨b, 1, none⟩ v1).setCell ⟨b, 2, none⟩ v2).setCell ⟨b, 3, none⟩ v3).setCell ⟨b, 4, none⟩ v4).setCell ⟨b, 5, none⟩ v5).setCell ⟨b, 6, none⟩ v6).setCell ⟨b, 7, none⟩ v7).setCell ⟨b, 8, none⟩ v8).setCell ⟨b, 9, none⟩ v9).setCell ⟨b, 10, none⟩ v10).setCell ⟨b, 11, none⟩ v11) ∧ F.heap[b]? = some (.cells #[v0, v1, v2, v3, v4, v5, v6, v7, v8, v9, v10, v11] t (0, 0)) ∧ (∀ Q, Q ≤ b → Below Q w F) ∧ (∀ k, k ≠ b → F.heap[k]? = w.heap[k]?) ∧ F.heap.size = w.heap.size := by
  refine ⟨_, rfl, by simp [World.setCell, Array.getElem?_modify, h], fun Q hQ => ?_, fun k hk => ?_, by simp only [World.size_setCell]⟩
  · exact ((((((((((((Below.refl Q w).setCell (show Q ≤ _ from hQ) _).setCell (show Q ≤ _ from hQ) _).setCell (show Q ≤ _ from hQ) _).setCell (show Q ≤ _ from hQ) _).setCell (show Q ≤ _ from hQ) _).setCell (show Q ≤ _ from hQ) _).setCell (show Q ≤ _ from hQ) _).setCell (show Q ≤ _ from hQ) _).setCell (show Q ≤ _ from hQ) _).setCell (show Q ≤ _ from hQ) _).setCell (show Q ≤ _ from hQ) _).setCell (show Q ≤ _ from hQ) _
  · rw [Below.heap_setCell _ _ _ _ hk, Below.heap_setCell _ _ _ _ hk, Below.heap_setCell _ _ _ _ hk, Below.heap_setCell _ _ _ _ hk, Below.heap_setCell _ _ _ _ hk, Below.heap_setCell _ _ _ _ hk, Below.heap_setCell _ _ _ _ hk, Below.heap_setCell _ _ _ _ hk, Below.heap_setCell _ _ _ _ hk, Below.heap_setCell _ _ _ _ hk, Below.heap_setCell _ _ _ _ hk, Below.heap_setCell _ _ _ _ hk]

set_option maxHeartbeats 16000000 in
theorem giveMsg_any (m : Ms) (Ad : Option Addr) (nd cd : Nat) (Ae : Option Addr) (ne ce : Nat) (w : World) (h : InM m Ad nd cd Ae ne ce w) (hsd : nd ≤ 1000000000) (hse : SmallE 1000000 100000000 m.ents) :
    Calls Tryz.prog 14 #[.agg #[.int .i64 m.kind, .int .i64 m.frm, .int .i64 m.to, .int .i64 m.term, .int .i64 m.index, .int .i64 m.logTerm, .int .i64 m.commit, .int .i64 m.round, .bool m.ok, .int .i64 m.off, .slice Ad nd cd, .slice Ae ne ce]] w fun y w' => ∃ A1 c1 A2 c2, y = .returned (.agg #[.int .i64 m.kind, .int .i64 m.frm, .int .i64 m.to, .int .i64 m.term, .int .i64 m.index, .int .i64 m.logTerm, .int .i64 m.commit, .int .i64 m.round, .bool m.ok, .int .i64 m.off, .slice A1 nd c1, .slice A2 ne c2]) ∧ InM m A1 nd c1 A2 ne c2 w' ∧ Below w.heap.size w w' := by
  have hnd := h.data.len_
  obtain ⟨W1, g, g2, hW1, hg, hg2, hb1, hq, hq2, hsz⟩ := two_box w (.cells #[.int .i64 m.kind, .int .i64 m.frm, .int .i64 m.to, .int .i64 m.term, .int .i64 m.index, .int .i64 m.logTerm, .int .i64 m.commit, .int .i64 m.round, .bool m.ok, .int .i64 m.off, .slice Ad nd cd, .slice Ae ne ce] 25) (.cells #[.int .i64 0, .int .i64 0, .int .i64 0, .int .i64 0, .int .i64 0, .int .i64 0, .int .i64 0, .int .i64 0, .bool false, .int .i64 0, .slice none 0 0, .slice none 0 0] 30)
  have HW := Lib.hid (And.intro hW1 (And.intro hg hg2))
  have HE := Lib.hid (And.intro hb1 (And.intro hq (And.intro hq2 (And.intro (show w.heap.size ≤ g2 by omega) hsz))))
  have HN := Lib.hid (And.intro hsd (And.intro hnd (And.intro hse h)))
  have hres : Tryz.f14.results = #[.cell 2 30] := by kernel_rfl
  clear h hnd hsd hse hW1 hb1 hq hq2 hg hg2 hsz
  go_enter Tryz.func14, Tryz.ntmps14
  go_upto_region 1 with fail
  rw [← HW.out.1, ← HW.out.2.1, ← HW.out.2.2]
  go_upto_region 2 with fail
  have hd0 : Below g2 W1 W1.drew := (Below.refl _ _).drew
  have hd1 : Below W1.heap.size W1 W1.drew := (Below.refl _ _).drew
  have hlt : g < g2 := by have := HW.out.2.2; omega
  have HLT := Lib.hid hlt
  refine wp_region_held_drew (S := fun W => Below g2 W1 W) (by kernel_rfl) hd0 (fun hHeld => ?_)
  clear hd0
  refine wpAnyH_take (i := 0) (oi := { dst := Option.some 4, op := Op.fieldAddr 25 (Operand.tmp 1) 0, type := 0, pos := "law.go:53", after := #[], guard := Option.none }) (v := .pointer (some ⟨g, 0, none⟩)) rfl (by kernel_rfl) (by kernel_rfl) (by kernel_rfl) (fun _ _ _ h => h) (Or.inl ⟨by rfl, ?_⟩) hHeld ?_
  · intro W hSw
    obtain ⟨z0, z1, z2, z3, z4, z5, z6, z7, z8, z9, z10, z11⟩ := cells12 ((hSw.block g HLT.out).trans HE.out.2.1)
    go_simp
  simp only [Act.put, List.setIfInBounds_toArray, List.set_cons_zero, List.set_cons_succ]
  refine wpAnyH_take (i := 1) (oi := { dst := Option.some 5, op := Op.load 3 (Operand.tmp 4), type := 3, pos := "law.go:53", after := #[{ on := 0, ground := Ground.data }], guard := Option.none }) (v := .int .i64 m.kind) rfl (by kernel_rfl) (by kernel_rfl) (by kernel_rfl) (fun _ _ _ h => h) (Or.inl ⟨by rfl, ?_⟩) hHeld ?_
  · intro W hSw
    obtain ⟨z0, z1, z2, z3, z4, z5, z6, z7, z8, z9, z10, z11⟩ := cells12 ((hSw.block g HLT.out).trans HE.out.2.1)
    go_simp
  simp only [Act.put, List.setIfInBounds_toArray, List.set_cons_zero, List.set_cons_succ]
  refine wpAnyH_take (i := 2) (oi := { dst := Option.some 6, op := Op.fieldAddr 25 (Operand.tmp 1) 1, type := 0, pos := "law.go:53", after := #[], guard := Option.none }) (v := .pointer (some ⟨g, 1, none⟩)) rfl (by kernel_rfl) (by kernel_rfl) (by kernel_rfl) (fun _ _ _ h => h) (Or.inl ⟨by rfl, ?_⟩) hHeld ?_
  · intro W hSw
    obtain ⟨z0, z1, z2, z3, z4, z5, z6, z7, z8, z9, z10, z11⟩ := cells12 ((hSw.block g HLT.out).trans HE.out.2.1)
    go_simp
  simp only [Act.put, List.setIfInBounds_toArray, List.set_cons_zero, List.set_cons_succ]
  refine wpAnyH_take (i := 3) (oi := { dst := Option.some 7, op := Op.load 3 (Operand.tmp 6), type := 3, pos := "law.go:53", after := #[{ on := 2, ground := Ground.data }], guard := Option.none }) (v := .int .i64 m.frm) rfl (by kernel_rfl) (by kernel_rfl) (by kernel_rfl) (fun _ _ _ h => h) (Or.inl ⟨by rfl, ?_⟩) hHeld ?_
  · intro W hSw
    obtain ⟨z0, z1, z2, z3, z4, z5, z6, z7, z8, z9, z10, z11⟩ := cells12 ((hSw.block g HLT.out).trans HE.out.2.1)
    go_simp
  simp only [Act.put, List.setIfInBounds_toArray, List.set_cons_zero, List.set_cons_succ]
  refine wpAnyH_take (i := 4) (oi := { dst := Option.some 8, op := Op.fieldAddr 25 (Operand.tmp 1) 2, type := 0, pos := "law.go:53", after := #[], guard := Option.none }) (v := .pointer (some ⟨g, 2, none⟩)) rfl (by kernel_rfl) (by kernel_rfl) (by kernel_rfl) (fun _ _ _ h => h) (Or.inl ⟨by rfl, ?_⟩) hHeld ?_
  · intro W hSw
    obtain ⟨z0, z1, z2, z3, z4, z5, z6, z7, z8, z9, z10, z11⟩ := cells12 ((hSw.block g HLT.out).trans HE.out.2.1)
    go_simp
  simp only [Act.put, List.setIfInBounds_toArray, List.set_cons_zero, List.set_cons_succ]
  refine wpAnyH_take (i := 5) (oi := { dst := Option.some 9, op := Op.load 3 (Operand.tmp 8), type := 3, pos := "law.go:53", after := #[{ on := 4, ground := Ground.data }], guard := Option.none }) (v := .int .i64 m.to) rfl (by kernel_rfl) (by kernel_rfl) (by kernel_rfl) (fun _ _ _ h => h) (Or.inl ⟨by rfl, ?_⟩) hHeld ?_
  · intro W hSw
    obtain ⟨z0, z1, z2, z3, z4, z5, z6, z7, z8, z9, z10, z11⟩ := cells12 ((hSw.block g HLT.out).trans HE.out.2.1)
    go_simp
  simp only [Act.put, List.setIfInBounds_toArray, List.set_cons_zero, List.set_cons_succ]
  refine wpAnyH_take (i := 6) (oi := { dst := Option.some 10, op := Op.fieldAddr 25 (Operand.tmp 1) 3, type := 0, pos := "law.go:53", after := #[], guard := Option.none }) (v := .pointer (some ⟨g, 3, none⟩)) rfl (by kernel_rfl) (by kernel_rfl) (by kernel_rfl) (fun _ _ _ h => h) (Or.inl ⟨by rfl, ?_⟩) hHeld ?_
  · intro W hSw
    obtain ⟨z0, z1, z2, z3, z4, z5, z6, z7, z8, z9, z10, z11⟩ := cells12 ((hSw.block g HLT.out).trans HE.out.2.1)
    go_simp
  simp only [Act.put, List.setIfInBounds_toArray, List.set_cons_zero, List.set_cons_succ]
  refine wpAnyH_take (i := 7) (oi := { dst := Option.some 11, op := Op.load 3 (Operand.tmp 10), type := 3, pos := "law.go:53", after := #[{ on := 6, ground := Ground.data }], guard := Option.none }) (v := .int .i64 m.term) rfl (by kernel_rfl) (by kernel_rfl) (by kernel_rfl) (fun _ _ _ h => h) (Or.inl ⟨by rfl, ?_⟩) hHeld ?_
  · intro W hSw
    obtain ⟨z0, z1, z2, z3, z4, z5, z6, z7, z8, z9, z10, z11⟩ := cells12 ((hSw.block g HLT.out).trans HE.out.2.1)
    go_simp
  simp only [Act.put, List.setIfInBounds_toArray, List.set_cons_zero, List.set_cons_succ]
  refine wpAnyH_take (i := 8) (oi := { dst := Option.some 12, op := Op.fieldAddr 25 (Operand.tmp 1) 4, type := 0, pos := "law.go:53", after := #[], guard := Option.none }) (v := .pointer (some ⟨g, 4, none⟩)) rfl (by kernel_rfl) (by kernel_rfl) (by kernel_rfl) (fun _ _ _ h => h) (Or.inl ⟨by rfl, ?_⟩) hHeld ?_
  · intro W hSw
    obtain ⟨z0, z1, z2, z3, z4, z5, z6, z7, z8, z9, z10, z11⟩ := cells12 ((hSw.block g HLT.out).trans HE.out.2.1)
    go_simp
  simp only [Act.put, List.setIfInBounds_toArray, List.set_cons_zero, List.set_cons_succ]
  refine wpAnyH_take (i := 9) (oi := { dst := Option.some 13, op := Op.load 3 (Operand.tmp 12), type := 3, pos := "law.go:53", after := #[{ on := 8, ground := Ground.data }], guard := Option.none }) (v := .int .i64 m.index) rfl (by kernel_rfl) (by kernel_rfl) (by kernel_rfl) (fun _ _ _ h => h) (Or.inl ⟨by rfl, ?_⟩) hHeld ?_
  · intro W hSw
    obtain ⟨z0, z1, z2, z3, z4, z5, z6, z7, z8, z9, z10, z11⟩ := cells12 ((hSw.block g HLT.out).trans HE.out.2.1)
    go_simp
  simp only [Act.put, List.setIfInBounds_toArray, List.set_cons_zero, List.set_cons_succ]
  refine wpAnyH_take (i := 10) (oi := { dst := Option.some 14, op := Op.fieldAddr 25 (Operand.tmp 1) 5, type := 0, pos := "law.go:53", after := #[], guard := Option.none }) (v := .pointer (some ⟨g, 5, none⟩)) rfl (by kernel_rfl) (by kernel_rfl) (by kernel_rfl) (fun _ _ _ h => h) (Or.inl ⟨by rfl, ?_⟩) hHeld ?_
  · intro W hSw
    obtain ⟨z0, z1, z2, z3, z4, z5, z6, z7, z8, z9, z10, z11⟩ := cells12 ((hSw.block g HLT.out).trans HE.out.2.1)
    go_simp
  simp only [Act.put, List.setIfInBounds_toArray, List.set_cons_zero, List.set_cons_succ]
  refine wpAnyH_take (i := 11) (oi := { dst := Option.some 15, op := Op.load 3 (Operand.tmp 14), type := 3, pos := "law.go:53", after := #[{ on := 10, ground := Ground.data }], guard := Option.none }) (v := .int .i64 m.logTerm) rfl (by kernel_rfl) (by kernel_rfl) (by kernel_rfl) (fun _ _ _ h => h) (Or.inl ⟨by rfl, ?_⟩) hHeld ?_
  · intro W hSw
    obtain ⟨z0, z1, z2, z3, z4, z5, z6, z7, z8, z9, z10, z11⟩ := cells12 ((hSw.block g HLT.out).trans HE.out.2.1)
    go_simp
  simp only [Act.put, List.setIfInBounds_toArray, List.set_cons_zero, List.set_cons_succ]
  refine wpAnyH_take (i := 12) (oi := { dst := Option.some 16, op := Op.fieldAddr 25 (Operand.tmp 1) 6, type := 0, pos := "law.go:53", after := #[], guard := Option.none }) (v := .pointer (some ⟨g, 6, none⟩)) rfl (by kernel_rfl) (by kernel_rfl) (by kernel_rfl) (fun _ _ _ h => h) (Or.inl ⟨by rfl, ?_⟩) hHeld ?_
  · intro W hSw
    obtain ⟨z0, z1, z2, z3, z4, z5, z6, z7, z8, z9, z10, z11⟩ := cells12 ((hSw.block g HLT.out).trans HE.out.2.1)
    go_simp
  simp only [Act.put, List.setIfInBounds_toArray, List.set_cons_zero, List.set_cons_succ]
  refine wpAnyH_take (i := 13) (oi := { dst := Option.some 17, op := Op.load 3 (Operand.tmp 16), type := 3, pos := "law.go:53", after := #[{ on := 12, ground := Ground.data }], guard := Option.none }) (v := .int .i64 m.commit) rfl (by kernel_rfl) (by kernel_rfl) (by kernel_rfl) (fun _ _ _ h => h) (Or.inl ⟨by rfl, ?_⟩) hHeld ?_
  · intro W hSw
    obtain ⟨z0, z1, z2, z3, z4, z5, z6, z7, z8, z9, z10, z11⟩ := cells12 ((hSw.block g HLT.out).trans HE.out.2.1)
    go_simp
  simp only [Act.put, List.setIfInBounds_toArray, List.set_cons_zero, List.set_cons_succ]
  refine wpAnyH_take (i := 14) (oi := { dst := Option.some 18, op := Op.fieldAddr 25 (Operand.tmp 1) 7, type := 0, pos := "law.go:53", after := #[], guard := Option.none }) (v := .pointer (some ⟨g, 7, none⟩)) rfl (by kernel_rfl) (by kernel_rfl) (by kernel_rfl) (fun _ _ _ h => h) (Or.inl ⟨by rfl, ?_⟩) hHeld ?_
  · intro W hSw
    obtain ⟨z0, z1, z2, z3, z4, z5, z6, z7, z8, z9, z10, z11⟩ := cells12 ((hSw.block g HLT.out).trans HE.out.2.1)
    go_simp
  simp only [Act.put, List.setIfInBounds_toArray, List.set_cons_zero, List.set_cons_succ]
  refine wpAnyH_take (i := 15) (oi := { dst := Option.some 19, op := Op.load 3 (Operand.tmp 18), type := 3, pos := "law.go:53", after := #[{ on := 14, ground := Ground.data }], guard := Option.none }) (v := .int .i64 m.round) rfl (by kernel_rfl) (by kernel_rfl) (by kernel_rfl) (fun _ _ _ h => h) (Or.inl ⟨by rfl, ?_⟩) hHeld ?_
  · intro W hSw
    obtain ⟨z0, z1, z2, z3, z4, z5, z6, z7, z8, z9, z10, z11⟩ := cells12 ((hSw.block g HLT.out).trans HE.out.2.1)
    go_simp
  simp only [Act.put, List.setIfInBounds_toArray, List.set_cons_zero, List.set_cons_succ]
  refine wpAnyH_take (i := 16) (oi := { dst := Option.some 20, op := Op.fieldAddr 25 (Operand.tmp 1) 8, type := 0, pos := "law.go:53", after := #[], guard := Option.none }) (v := .pointer (some ⟨g, 8, none⟩)) rfl (by kernel_rfl) (by kernel_rfl) (by kernel_rfl) (fun _ _ _ h => h) (Or.inl ⟨by rfl, ?_⟩) hHeld ?_
  · intro W hSw
    obtain ⟨z0, z1, z2, z3, z4, z5, z6, z7, z8, z9, z10, z11⟩ := cells12 ((hSw.block g HLT.out).trans HE.out.2.1)
    go_simp
  simp only [Act.put, List.setIfInBounds_toArray, List.set_cons_zero, List.set_cons_succ]
  refine wpAnyH_take (i := 17) (oi := { dst := Option.some 21, op := Op.load 4 (Operand.tmp 20), type := 4, pos := "law.go:53", after := #[{ on := 16, ground := Ground.data }], guard := Option.none }) (v := .bool m.ok) rfl (by kernel_rfl) (by kernel_rfl) (by kernel_rfl) (fun _ _ _ h => h) (Or.inl ⟨by rfl, ?_⟩) hHeld ?_
  · intro W hSw
    obtain ⟨z0, z1, z2, z3, z4, z5, z6, z7, z8, z9, z10, z11⟩ := cells12 ((hSw.block g HLT.out).trans HE.out.2.1)
    go_simp
  simp only [Act.put, List.setIfInBounds_toArray, List.set_cons_zero, List.set_cons_succ]
  refine wpAnyH_take (i := 18) (oi := { dst := Option.some 22, op := Op.fieldAddr 25 (Operand.tmp 1) 9, type := 0, pos := "law.go:53", after := #[], guard := Option.none }) (v := .pointer (some ⟨g, 9, none⟩)) rfl (by kernel_rfl) (by kernel_rfl) (by kernel_rfl) (fun _ _ _ h => h) (Or.inl ⟨by rfl, ?_⟩) hHeld ?_
  · intro W hSw
    obtain ⟨z0, z1, z2, z3, z4, z5, z6, z7, z8, z9, z10, z11⟩ := cells12 ((hSw.block g HLT.out).trans HE.out.2.1)
    go_simp
  simp only [Act.put, List.setIfInBounds_toArray, List.set_cons_zero, List.set_cons_succ]
  refine wpAnyH_take (i := 19) (oi := { dst := Option.some 23, op := Op.load 3 (Operand.tmp 22), type := 3, pos := "law.go:53", after := #[{ on := 18, ground := Ground.data }], guard := Option.none }) (v := .int .i64 m.off) rfl (by kernel_rfl) (by kernel_rfl) (by kernel_rfl) (fun _ _ _ h => h) (Or.inl ⟨by rfl, ?_⟩) hHeld ?_
  · intro W hSw
    obtain ⟨z0, z1, z2, z3, z4, z5, z6, z7, z8, z9, z10, z11⟩ := cells12 ((hSw.block g HLT.out).trans HE.out.2.1)
    go_simp
  simp only [Act.put, List.setIfInBounds_toArray, List.set_cons_zero, List.set_cons_succ]
  refine wpAnyH_take (i := 20) (oi := { dst := Option.some 24, op := Op.move (Operand.tmp 3), type := 22, pos := "law.go:53", after := #[], guard := Option.none }) (v := .slice none 0 0) rfl (by kernel_rfl) (by kernel_rfl) (by kernel_rfl) (fun _ _ _ h => h) (Or.inl ⟨by rfl, ?_⟩) hHeld ?_
  · intro W hSw
    obtain ⟨z0, z1, z2, z3, z4, z5, z6, z7, z8, z9, z10, z11⟩ := cells12 ((hSw.block g HLT.out).trans HE.out.2.1)
    go_simp
  simp only [Act.put, List.setIfInBounds_toArray, List.set_cons_zero, List.set_cons_succ]
  refine wpAnyH_take (i := 21) (oi := { dst := Option.some 25, op := Op.fieldAddr 25 (Operand.tmp 1) 10, type := 0, pos := "law.go:53", after := #[], guard := Option.none }) (v := .pointer (some ⟨g, 10, none⟩)) rfl (by kernel_rfl) (by kernel_rfl) (by kernel_rfl) (fun _ _ _ h => h) (Or.inl ⟨by rfl, ?_⟩) hHeld ?_
  · intro W hSw
    obtain ⟨z0, z1, z2, z3, z4, z5, z6, z7, z8, z9, z10, z11⟩ := cells12 ((hSw.block g HLT.out).trans HE.out.2.1)
    go_simp
  simp only [Act.put, List.setIfInBounds_toArray, List.set_cons_zero, List.set_cons_succ]
  refine wpAnyH_take (i := 22) (oi := { dst := Option.some 26, op := Op.load 22 (Operand.tmp 25), type := 22, pos := "law.go:53", after := #[{ on := 21, ground := Ground.data }], guard := Option.none }) (v := .slice Ad nd cd) rfl (by kernel_rfl) (by kernel_rfl) (by kernel_rfl) (fun _ _ _ h => h) (Or.inl ⟨by rfl, ?_⟩) hHeld ?_
  · intro W hSw
    obtain ⟨z0, z1, z2, z3, z4, z5, z6, z7, z8, z9, z10, z11⟩ := cells12 ((hSw.block g HLT.out).trans HE.out.2.1)
    go_simp
  simp only [Act.put, List.setIfInBounds_toArray, List.set_cons_zero, List.set_cons_succ]
  refine wpAnyH_take (i := 24) (oi := { dst := Option.some 28, op := Op.fieldAddr 25 (Operand.tmp 1) 11, type := 0, pos := "law.go:53", after := #[], guard := Option.none }) (v := .pointer (some ⟨g, 11, none⟩)) rfl (by kernel_rfl) (by kernel_rfl) (by kernel_rfl) (fun _ _ _ h => h) (Or.inl ⟨by rfl, ?_⟩) hHeld ?_
  · intro W hSw
    obtain ⟨z0, z1, z2, z3, z4, z5, z6, z7, z8, z9, z10, z11⟩ := cells12 ((hSw.block g HLT.out).trans HE.out.2.1)
    go_simp
  simp only [Act.put, List.setIfInBounds_toArray, List.set_cons_zero, List.set_cons_succ]
  refine wpAnyH_take (i := 25) (oi := { dst := Option.some 29, op := Op.load 23 (Operand.tmp 28), type := 23, pos := "law.go:53", after := #[{ on := 24, ground := Ground.data }], guard := Option.none }) (v := .slice Ae ne ce) rfl (by kernel_rfl) (by kernel_rfl) (by kernel_rfl) (fun _ _ _ h => h) (Or.inl ⟨by rfl, ?_⟩) hHeld ?_
  · intro W hSw
    obtain ⟨z0, z1, z2, z3, z4, z5, z6, z7, z8, z9, z10, z11⟩ := cells12 ((hSw.block g HLT.out).trans HE.out.2.1)
    go_simp
  simp only [Act.put, List.setIfInBounds_toArray, List.set_cons_zero, List.set_cons_succ]
  refine wpAnyH_ready (rs := [23]) (by kernel_rfl) (by simp) ?_
  refine AllReadyH.cons (o := { dst := Option.some 27, op := Op.call { callee := Callee.builtin Builtin.append, args := #[Operand.tmp 24, Operand.tmp 26], argTypes := #[22, 22] }, type := 22, pos := "law.go:53", after := #[{ on := 20, ground := Ground.data }, { on := 22, ground := Ground.data }], guard := Option.none }) rfl (fun K hK => ?_) AllReadyH.nil
  refine step_op' rfl (wp_joinB (w := W1.drew) (xs := []) (World.ownsRow_nil W1.drew W1.heap.size 5 1) (.tmp 24) (.tmp 26) rfl rfl Ad nd cd rfl m.data (HN.out.2.2.2.data.below (HE.out.1.trans (hd1.mono HE.out.1.size))) (by have := HN.out.1; simp; omega) (Nat.le_refl _) ?_)
  intro v1 w1 ho1 hg1
  rw [List.nil_append] at ho1
  have hb1 : Below W1.heap.size W1 w1 := Below.grown hd1 hg1 (Nat.le_refl _) (fun q hq => by cases hq)
  have hI1 : SlT w1 (fun q => W1.heap.size ≤ q ∧ q < w1.heap.size) v1 m.data := SlT.of_own ho1 _ fun q hq => ho1.lt q hq
  obtain ⟨A1, c1, hv, -, -⟩ := (Bys.of_own ho1).form
  rw [← HN.out.2.1] at hv
  subst hv
  have HA := Lib.hid (And.intro hb1 hI1)
  have HGR := Lib.hid hg1
  clear hb1 hI1 ho1 hg1
  refine hK.out _ _ (HA.out.1.mono (by have := HE.out.2.2.2.2; omega)) (fun hHeld2 => ?_)
  clear hK K hHeld
  have hHeld := hHeld2
  clear hHeld2
  simp only [Act.put, List.setIfInBounds_toArray, List.set_cons_zero, List.set_cons_succ]
  refine wpAnyH_ready (rs := [26]) (by kernel_rfl) (by simp) ?_
  refine AllReadyH.cons (o := { dst := Option.some 30, op := Op.call { callee := Callee.value (Operand.func 40), args := #[Operand.tmp 29], argTypes := #[23] }, type := 28, pos := "law.go:53", after := #[{ on := 25, ground := Ground.data }, { on := 23, ground := Ground.chain }], guard := Option.none }) rfl (fun K hK => ?_) AllReadyH.nil
  have HG := Lib.hid (giveEntries_any Ae ne ce m.ents w1 (HN.out.2.2.2.ents.below (HE.out.1.trans (HA.out.1.mono HE.out.1.size))) HN.out.2.2.1)
  go_simp
  refine HG.out.mono ?_
  rintro y w2 ⟨A2, c2, rfl, hi2, hb2⟩
  have HC := Lib.hid (And.intro hi2 hb2)
  clear hi2 hb2
  refine hK.out _ _ ((HA.out.1.trans (HC.out.2.mono HA.out.1.size)).mono (by have := HE.out.2.2.2.2; omega)) (fun hHeld2 => ?_)
  clear hK K hHeld
  have hHeld := hHeld2
  clear hHeld2
  have HS := Lib.hid (And.intro (HA.out.1.trans (HC.out.2.mono HA.out.1.size)) (And.intro (show SlT w2 (fun q => W1.heap.size ≤ q ∧ q < w2.heap.size) (.slice A1 nd c1) m.data from (SlT.kept HA.out.2 fun k _ hk => HC.out.2.block k hk).mono fun k hk => ⟨hk.1, Nat.lt_of_lt_of_le hk.2 HC.out.2.size⟩) (show EntsT w2 (fun q => W1.heap.size ≤ q ∧ q < w2.heap.size) (.slice A2 ne c2) m.ents from EntsT.move HC.out.1 (fun _ _ _ => rfl) fun k hk => ⟨Nat.le_trans HA.out.1.size hk.1, hk.2⟩)))
  clear HA HC HG HGR
  refine wpAnyH_take (i := 27) (oi := { dst := Option.some 31, op := Op.build 30 #[(0, Operand.tmp 5), (1, Operand.tmp 7), (2, Operand.tmp 9), (3, Operand.tmp 11), (4, Operand.tmp 13), (5, Operand.tmp 15), (6, Operand.tmp 17), (7, Operand.tmp 19), (8, Operand.tmp 21), (9, Operand.tmp 23), (10, Operand.tmp 27), (11, Operand.tmp 30)], type := 30, pos := "law.go:53", after := #[{ on := 1, ground := Ground.data }, { on := 3, ground := Ground.data }, { on := 5, ground := Ground.data }, { on := 7, ground := Ground.data }, { on := 9, ground := Ground.data }, { on := 11, ground := Ground.data }, { on := 13, ground := Ground.data }, { on := 15, ground := Ground.data }, { on := 17, ground := Ground.data }, { on := 19, ground := Ground.data }, { on := 23, ground := Ground.data }, { on := 26, ground := Ground.data }], guard := Option.none }) (v := .agg #[.int .i64 m.kind, .int .i64 m.frm, .int .i64 m.to, .int .i64 m.term, .int .i64 m.index, .int .i64 m.logTerm, .int .i64 m.commit, .int .i64 m.round, .bool m.ok, .int .i64 m.off, .slice A1 nd c1, .slice A2 ne c2]) rfl (by kernel_rfl) (by kernel_rfl) (by kernel_rfl) (fun _ _ _ h => h) (Or.inl ⟨by rfl, ?_⟩) hHeld ?_
  · intro W hSw
    go_simp
  simp only [Act.put, List.setIfInBounds_toArray, List.set_cons_zero, List.set_cons_succ]
  have hS := (HS.out.1.block g2 (obj_lt HE.out.2.2.1)).trans HE.out.2.2.1
  obtain ⟨y0, y1, y2, y3, y4, y5, y6, y7, y8, y9, y10, y11⟩ := cells12 hS
  have fz := fun j => frozen_own hS j
  have f0 := fz 0
  have f1 := fz 1
  have f2 := fz 2
  have f3 := fz 3
  have f4 := fz 4
  have f5 := fz 5
  have f6 := fz 6
  have f7 := fz 7
  have f8 := fz 8
  have f9 := fz 9
  have f10 := fz 10
  have f11 := fz 11
  have HS2 := Lib.hid hS
  clear hS fz
  refine wpAnyH_ready (rs := [28]) (by kernel_rfl) (by simp) ?_
  refine AllReadyH.cons (o := { dst := Option.none, op := Op.store 30 (Operand.tmp 2) (Operand.tmp 31), type := 0, pos := "law.go:53", after := #[{ on := 27, ground := Ground.data }, { on := 26, ground := Ground.chain }, { on := 0, ground := Ground.phase }, { on := 1, ground := Ground.phase }, { on := 2, ground := Ground.phase }, { on := 3, ground := Ground.phase }, { on := 4, ground := Ground.phase }, { on := 5, ground := Ground.phase }, { on := 6, ground := Ground.phase }, { on := 7, ground := Ground.phase }, { on := 8, ground := Ground.phase }, { on := 9, ground := Ground.phase }, { on := 10, ground := Ground.phase }, { on := 11, ground := Ground.phase }, { on := 12, ground := Ground.phase }, { on := 13, ground := Ground.phase }, { on := 14, ground := Ground.phase }, { on := 15, ground := Ground.phase }, { on := 16, ground := Ground.phase }, { on := 17, ground := Ground.phase }, { on := 18, ground := Ground.phase }, { on := 19, ground := Ground.phase }, { on := 20, ground := Ground.phase }, { on := 21, ground := Ground.phase }, { on := 22, ground := Ground.phase }, { on := 23, ground := Ground.phase }, { on := 24, ground := Ground.phase }, { on := 25, ground := Ground.phase }, { on := 26, ground := Ground.phase }, { on := 27, ground := Ground.phase }], guard := Option.none }) rfl (fun K hK => ?_) AllReadyH.nil
  go_simp
  obtain ⟨WF, hWF, hown, hbl, hoth, hsz2⟩ := put12 HS2.out (.int .i64 m.kind) (.int .i64 m.frm) (.int .i64 m.to) (.int .i64 m.term) (.int .i64 m.index) (.int .i64 m.logTerm) (.int .i64 m.commit) (.int .i64 m.round) (.bool m.ok) (.int .i64 m.off) (.slice A1 nd c1) (.slice A2 ne c2)
  obtain ⟨z0, z1, z2, z3, z4, z5, z6, z7, z8, z9, z10, z11⟩ := cells12 hown
  have hbF := hbl g2 (Nat.le_refl _)
  rw [← hWF]
  have HF := Lib.hid (And.intro (HS.out.1.mono (show g2 ≤ W1.heap.size by have := HE.out.2.2.2.2; omega) |>.trans hbF) (And.intro hoth hsz2))
  refine hK.out _ _ HF.out.1 (fun hHeld2 => ?_)
  clear hK K hHeld hHeld2 hWF hown hbl hoth hsz2 hbF y0 f0 y1 f1 y2 f2 y3 f3 y4 f4 y5 f5 y6 f6 y7 f7 y8 f8 y9 f9 y10 f10 y11 f11
  refine wpAnyH_done (by kernel_rfl) ?_ _
  go_wp2_with fail
  have hbw : Below w.heap.size w WF := HE.out.1.trans (HF.out.1.mono HE.out.2.2.2.1)
  refine bodyPost_ret (v := .agg #[.int .i64 m.kind, .int .i64 m.frm, .int .i64 m.to, .int .i64 m.term, .int .i64 m.index, .int .i64 m.logTerm, .int .i64 m.commit, .int .i64 m.round, .bool m.ok, .int .i64 m.off, .slice A1 nd c1, .slice A2 ne c2]) ?_ rfl ⟨A1, c1, A2, c2, rfl, ⟨?_, ?_, HN.out.2.2.2.i0⟩, hbw⟩
  · simp only [results, hres]
    go_simp
  · refine (SlT.kept HS.out.2.1 fun k hk _ => HF.out.2.1 k ?_).mono fun k hk => by rw [HF.out.2.2]; exact hk.2
    have := hk.1; have := HE.out.2.2.2.2; omega
  · refine ⟨EntsT.move HS.out.2.2 (fun k hk _ => HF.out.2.1 k ?_) fun k hk => by rw [HF.out.2.2]; exact hk.2, HN.out.2.2.2.ents.2⟩
    have := hk.1; have := HE.out.2.2.2.2; omega



end Go.Proofs.YtfblgkcipnkhaaaGreatDoor.pk

/-
  The document's own reader of a message: its boxes.
-/
namespace Go.Proofs.YtfblgkcipnkhaaaGreatDoor.pk
open Go Go.RowKit
set_option maxRecDepth 100000

/-- A box of twelve cells. -/
def M12 (w : World) (g : Nat) (v0 v1 v2 v3 v4 v5 v6 v7 v8 v9 v10 v11 : Value) : Prop := w.heap[g]? = some (.cells #[v0, v1, v2, v3, v4, v5, v6, v7, v8, v9, v10, v11] 25 (0, 0))
theorem M12.lt {w : World} {g : Nat} {v0 v1 v2 v3 v4 v5 v6 v7 v8 v9 v10 v11 : Value} (h : M12 w g v0 v1 v2 v3 v4 v5 v6 v7 v8 v9 v10 v11) : g < w.heap.size := obj_lt h
theorem M12.below {w w' : World} {g : Nat} {v0 v1 v2 v3 v4 v5 v6 v7 v8 v9 v10 v11 : Value} (h : M12 w g v0 v1 v2 v3 v4 v5 v6 v7 v8 v9 v10 v11) (hb : Below w.heap.size w w') : M12 w' g v0 v1 v2 v3 v4 v5 v6 v7 v8 v9 v10 v11 := (hb.block g h.lt).trans h
theorem M12.other {w : World} {g : Nat} {v0 v1 v2 v3 v4 v5 v6 v7 v8 v9 v10 v11 : Value} (h : M12 w g v0 v1 v2 v3 v4 v5 v6 v7 v8 v9 v10 v11) (p : Addr) (hp : g ≠ p.block) (u : Value) : M12 (w.setCell p u) g v0 v1 v2 v3 v4 v5 v6 v7 v8 v9 v10 v11 := (Below.heap_setCell w p u g hp).trans h
theorem M12.set0 {w : World} {g : Nat} {v0 v1 v2 v3 v4 v5 v6 v7 v8 v9 v10 v11 : Value} (h : M12 w g v0 v1 v2 v3 v4 v5 v6 v7 v8 v9 v10 v11) (u : Value) : M12 (w.setCell ⟨g, 0, none⟩ u) g u v1 v2 v3 v4 v5 v6 v7 v8 v9 v10 v11 := by
  unfold M12 at h ⊢; simp [World.setCell, Array.getElem?_modify, h]
theorem M12.set1 {w : World} {g : Nat} {v0 v1 v2 v3 v4 v5 v6 v7 v8 v9 v10 v11 : Value} (h : M12 w g v0 v1 v2 v3 v4 v5 v6 v7 v8 v9 v10 v11) (u : Value) : M12 (w.setCell ⟨g, 1, none⟩ u) g v0 u v2 v3 v4 v5 v6 v7 v8 v9 v10 v11 := by
  unfold M12 at h ⊢; simp [World.setCell, Array.getElem?_modify, h]
theorem M12.set2 {w : World} {g : Nat} {v0 v1 v2 v3 v4 v5 v6 v7 v8 v9 v10 v11 : Value} (h : M12 w g v0 v1 v2 v3 v4 v5 v6 v7 v8 v9 v10 v11) (u : Value) : M12 (w.setCell ⟨g, 2, none⟩ u) g v0 v1 u v3 v4 v5 v6 v7 v8 v9 v10 v11 := by
  unfold M12 at h ⊢; simp [World.setCell, Array.getElem?_modify, h]
theorem M12.set3 {w : World} {g : Nat} {v0 v1 v2 v3 v4 v5 v6 v7 v8 v9 v10 v11 : Value} (h : M12 w g v0 v1 v2 v3 v4 v5 v6 v7 v8 v9 v10 v11) (u : Value) : M12 (w.setCell ⟨g, 3, none⟩ u) g v0 v1 v2 u v4 v5 v6 v7 v8 v9 v10 v11 := by
  unfold M12 at h ⊢; simp [World.setCell, Array.getElem?_modify, h]
theorem M12.set4 {w : World} {g : Nat} {v0 v1 v2 v3 v4 v5 v6 v7 v8 v9 v10 v11 : Value} (h : M12 w g v0 v1 v2 v3 v4 v5 v6 v7 v8 v9 v10 v11) (u : Value) : M12 (w.setCell ⟨g, 4, none⟩ u) g v0 v1 v2 v3 u v5 v6 v7 v8 v9 v10 v11 := by
  unfold M12 at h ⊢; simp [World.setCell, Array.getElem?_modify, h]
theorem M12.set5 {w : World} {g : Nat} {v0 v1 v2 v3 v4 v5 v6 v7 v8 v9 v10 v11 : Value} (h : M12 w g v0 v1 v2 v3 v4 v5 v6 v7 v8 v9 v10 v11) (u : Value) : M12 (w.setCell ⟨g, 5, none⟩ u) g v0 v1 v2 v3 v4 u v6 v7 v8 v9 v10 v11 := by
  unfold M12 at h ⊢; simp [World.setCell, Array.getElem?_modify, h]
theorem M12.set6 {w : World} {g : Nat} {v0 v1 v2 v3 v4 v5 v6 v7 v8 v9 v10 v11 : Value} (h : M12 w g v0 v1 v2 v3 v4 v5 v6 v7 v8 v9 v10 v11) (u : Value) : M12 (w.setCell ⟨g, 6, none⟩ u) g v0 v1 v2 v3 v4 v5 u v7 v8 v9 v10 v11 := by
  unfold M12 at h ⊢; simp [World.setCell, Array.getElem?_modify, h]
theorem M12.set7 {w : World} {g : Nat} {v0 v1 v2 v3 v4 v5 v6 v7 v8 v9 v10 v11 : Value} (h : M12 w g v0 v1 v2 v3 v4 v5 v6 v7 v8 v9 v10 v11) (u : Value) : M12 (w.setCell ⟨g, 7, none⟩ u) g v0 v1 v2 v3 v4 v5 v6 u v8 v9 v10 v11 := by
  unfold M12 at h ⊢; simp [World.setCell, Array.getElem?_modify, h]
theorem M12.set8 {w : World} {g : Nat} {v0 v1 v2 v3 v4 v5 v6 v7 v8 v9 v10 v11 : Value} (h : M12 w g v0 v1 v2 v3 v4 v5 v6 v7 v8 v9 v10 v11) (u : Value) : M12 (w.setCell ⟨g, 8, none⟩ u) g v0 v1 v2 v3 v4 v5 v6 v7 u v9 v10 v11 := by
  unfold M12 at h ⊢; simp [World.setCell, Array.getElem?_modify, h]
theorem M12.set9 {w : World} {g : Nat} {v0 v1 v2 v3 v4 v5 v6 v7 v8 v9 v10 v11 : Value} (h : M12 w g v0 v1 v2 v3 v4 v5 v6 v7 v8 v9 v10 v11) (u : Value) : M12 (w.setCell ⟨g, 9, none⟩ u) g v0 v1 v2 v3 v4 v5 v6 v7 v8 u v10 v11 := by
  unfold M12 at h ⊢; simp [World.setCell, Array.getElem?_modify, h]
theorem M12.set10 {w : World} {g : Nat} {v0 v1 v2 v3 v4 v5 v6 v7 v8 v9 v10 v11 : Value} (h : M12 w g v0 v1 v2 v3 v4 v5 v6 v7 v8 v9 v10 v11) (u : Value) : M12 (w.setCell ⟨g, 10, none⟩ u) g v0 v1 v2 v3 v4 v5 v6 v7 v8 v9 u v11 := by
  unfold M12 at h ⊢; simp [World.setCell, Array.getElem?_modify, h]
theorem M12.set11 {w : World} {g : Nat} {v0 v1 v2 v3 v4 v5 v6 v7 v8 v9 v10 v11 : Value} (h : M12 w g v0 v1 v2 v3 v4 v5 v6 v7 v8 v9 v10 v11) (u : Value) : M12 (w.setCell ⟨g, 11, none⟩ u) g v0 v1 v2 v3 v4 v5 v6 v7 v8 v9 v10 u := by
  unfold M12 at h ⊢; simp [World.setCell, Array.getElem?_modify, h]

/-- Where Decode stands: its result, the message, its reader. -/
structure Mk (w : World) (g : Nat) (W : World) (x0 x1 v0 v1 v2 v3 v4 v5 v6 v7 v8 v9 v10 v11 : Value) : Prop where
  z : M12 W g (.int .i64 0) (.int .i64 0) (.int .i64 0) (.int .i64 0) (.int .i64 0) (.int .i64 0) (.int .i64 0) (.int .i64 0) (.bool false) (.int .i64 0) (.slice none 0 0) (.slice none 0 0)
  m : M12 W (g + 1) v0 v1 v2 v3 v4 v5 v6 v7 v8 v9 v10 v11
  r : RB W (g + 2) x0 x1
  bel : Below g w W
section
variable {w W W' : World} {g : Nat} {x0 x1 v0 v1 v2 v3 v4 v5 v6 v7 v8 v9 v10 v11 : Value}
theorem Mk.call (h : Mk w g W x0 x1 v0 v1 v2 v3 v4 v5 v6 v7 v8 v9 v10 v11) (hb : Below W.heap.size W W') : Mk w g W' x0 x1 v0 v1 v2 v3 v4 v5 v6 v7 v8 v9 v10 v11 :=
  ⟨h.z.below hb, h.m.below hb, h.r.below hb, h.bel.trans (hb.mono (Nat.le_of_lt h.z.lt))⟩
theorem Mk.setR (h : Mk w g W x0 x1 v0 v1 v2 v3 v4 v5 v6 v7 v8 v9 v10 v11) (u v : Value) : Mk w g ((W.setCell ⟨g + 2, 0, none⟩ u).setCell ⟨g + 2, 1, none⟩ v) u v v0 v1 v2 v3 v4 v5 v6 v7 v8 v9 v10 v11 :=
  ⟨(h.z.other _ (by simp only; omega) _).other _ (by simp only; omega) _, (h.m.other _ (by simp only; omega) _).other _ (by simp only; omega) _, h.r.set u v,
    (h.bel.setCell (p := ⟨g + 2, 0, none⟩) (by simp only; omega) _).setCell (p := ⟨g + 2, 1, none⟩) (by simp only; omega) _⟩
theorem Mk.set0 (h : Mk w g W x0 x1 v0 v1 v2 v3 v4 v5 v6 v7 v8 v9 v10 v11) (u : Value) : Mk w g (W.setCell ⟨g + 1, 0, none⟩ u) x0 x1 u v1 v2 v3 v4 v5 v6 v7 v8 v9 v10 v11 :=
  ⟨h.z.other _ (by simp only; omega) _, h.m.set0 u, h.r.other1 _ (by simp only; omega) _, h.bel.setCell (p := ⟨g + 1, 0, none⟩) (by simp only; omega) _⟩
theorem Mk.set1 (h : Mk w g W x0 x1 v0 v1 v2 v3 v4 v5 v6 v7 v8 v9 v10 v11) (u : Value) : Mk w g (W.setCell ⟨g + 1, 1, none⟩ u) x0 x1 v0 u v2 v3 v4 v5 v6 v7 v8 v9 v10 v11 :=
  ⟨h.z.other _ (by simp only; omega) _, h.m.set1 u, h.r.other1 _ (by simp only; omega) _, h.bel.setCell (p := ⟨g + 1, 1, none⟩) (by simp only; omega) _⟩
theorem Mk.set2 (h : Mk w g W x0 x1 v0 v1 v2 v3 v4 v5 v6 v7 v8 v9 v10 v11) (u : Value) : Mk w g (W.setCell ⟨g + 1, 2, none⟩ u) x0 x1 v0 v1 u v3 v4 v5 v6 v7 v8 v9 v10 v11 :=
  ⟨h.z.other _ (by simp only; omega) _, h.m.set2 u, h.r.other1 _ (by simp only; omega) _, h.bel.setCell (p := ⟨g + 1, 2, none⟩) (by simp only; omega) _⟩
theorem Mk.set3 (h : Mk w g W x0 x1 v0 v1 v2 v3 v4 v5 v6 v7 v8 v9 v10 v11) (u : Value) : Mk w g (W.setCell ⟨g + 1, 3, none⟩ u) x0 x1 v0 v1 v2 u v4 v5 v6 v7 v8 v9 v10 v11 :=
  ⟨h.z.other _ (by simp only; omega) _, h.m.set3 u, h.r.other1 _ (by simp only; omega) _, h.bel.setCell (p := ⟨g + 1, 3, none⟩) (by simp only; omega) _⟩
theorem Mk.set4 (h : Mk w g W x0 x1 v0 v1 v2 v3 v4 v5 v6 v7 v8 v9 v10 v11) (u : Value) : Mk w g (W.setCell ⟨g + 1, 4, none⟩ u) x0 x1 v0 v1 v2 v3 u v5 v6 v7 v8 v9 v10 v11 :=
  ⟨h.z.other _ (by simp only; omega) _, h.m.set4 u, h.r.other1 _ (by simp only; omega) _, h.bel.setCell (p := ⟨g + 1, 4, none⟩) (by simp only; omega) _⟩
theorem Mk.set5 (h : Mk w g W x0 x1 v0 v1 v2 v3 v4 v5 v6 v7 v8 v9 v10 v11) (u : Value) : Mk w g (W.setCell ⟨g + 1, 5, none⟩ u) x0 x1 v0 v1 v2 v3 v4 u v6 v7 v8 v9 v10 v11 :=
  ⟨h.z.other _ (by simp only; omega) _, h.m.set5 u, h.r.other1 _ (by simp only; omega) _, h.bel.setCell (p := ⟨g + 1, 5, none⟩) (by simp only; omega) _⟩
theorem Mk.set6 (h : Mk w g W x0 x1 v0 v1 v2 v3 v4 v5 v6 v7 v8 v9 v10 v11) (u : Value) : Mk w g (W.setCell ⟨g + 1, 6, none⟩ u) x0 x1 v0 v1 v2 v3 v4 v5 u v7 v8 v9 v10 v11 :=
  ⟨h.z.other _ (by simp only; omega) _, h.m.set6 u, h.r.other1 _ (by simp only; omega) _, h.bel.setCell (p := ⟨g + 1, 6, none⟩) (by simp only; omega) _⟩
theorem Mk.set7 (h : Mk w g W x0 x1 v0 v1 v2 v3 v4 v5 v6 v7 v8 v9 v10 v11) (u : Value) : Mk w g (W.setCell ⟨g + 1, 7, none⟩ u) x0 x1 v0 v1 v2 v3 v4 v5 v6 u v8 v9 v10 v11 :=
  ⟨h.z.other _ (by simp only; omega) _, h.m.set7 u, h.r.other1 _ (by simp only; omega) _, h.bel.setCell (p := ⟨g + 1, 7, none⟩) (by simp only; omega) _⟩
theorem Mk.set8 (h : Mk w g W x0 x1 v0 v1 v2 v3 v4 v5 v6 v7 v8 v9 v10 v11) (u : Value) : Mk w g (W.setCell ⟨g + 1, 8, none⟩ u) x0 x1 v0 v1 v2 v3 v4 v5 v6 v7 u v9 v10 v11 :=
  ⟨h.z.other _ (by simp only; omega) _, h.m.set8 u, h.r.other1 _ (by simp only; omega) _, h.bel.setCell (p := ⟨g + 1, 8, none⟩) (by simp only; omega) _⟩
theorem Mk.set9 (h : Mk w g W x0 x1 v0 v1 v2 v3 v4 v5 v6 v7 v8 v9 v10 v11) (u : Value) : Mk w g (W.setCell ⟨g + 1, 9, none⟩ u) x0 x1 v0 v1 v2 v3 v4 v5 v6 v7 v8 u v10 v11 :=
  ⟨h.z.other _ (by simp only; omega) _, h.m.set9 u, h.r.other1 _ (by simp only; omega) _, h.bel.setCell (p := ⟨g + 1, 9, none⟩) (by simp only; omega) _⟩
theorem Mk.set10 (h : Mk w g W x0 x1 v0 v1 v2 v3 v4 v5 v6 v7 v8 v9 v10 v11) (u : Value) : Mk w g (W.setCell ⟨g + 1, 10, none⟩ u) x0 x1 v0 v1 v2 v3 v4 v5 v6 v7 v8 v9 u v11 :=
  ⟨h.z.other _ (by simp only; omega) _, h.m.set10 u, h.r.other1 _ (by simp only; omega) _, h.bel.setCell (p := ⟨g + 1, 10, none⟩) (by simp only; omega) _⟩
theorem Mk.set11 (h : Mk w g W x0 x1 v0 v1 v2 v3 v4 v5 v6 v7 v8 v9 v10 v11) (u : Value) : Mk w g (W.setCell ⟨g + 1, 11, none⟩ u) x0 x1 v0 v1 v2 v3 v4 v5 v6 v7 v8 v9 v10 u :=
  ⟨h.z.other _ (by simp only; omega) _, h.m.set11 u, h.r.other1 _ (by simp only; omega) _, h.bel.setCell (p := ⟨g + 1, 11, none⟩) (by simp only; omega) _⟩
end

theorem mk_start (w : World) (u v : Value) : ∃ W, W = ((w.alloc (Obj.cells #[Value.int IntKind.i64 0, Value.int IntKind.i64 0, Value.int IntKind.i64 0, Value.int IntKind.i64 0, Value.int IntKind.i64 0, Value.int IntKind.i64 0, Value.int IntKind.i64 0, Value.int IntKind.i64 0, Value.bool false, Value.int IntKind.i64 0, Value.slice none 0 0, Value.slice none 0 0] 25)).alloc (Obj.cells #[Value.int IntKind.i64 0, Value.int IntKind.i64 0, Value.int IntKind.i64 0, Value.int IntKind.i64 0, Value.int IntKind.i64 0, Value.int IntKind.i64 0, Value.int IntKind.i64 0, Value.int IntKind.i64 0, Value.bool false, Value.int IntKind.i64 0, Value.slice none 0 0, Value.slice none 0 0] 25)).alloc (Obj.cells #[u, v] 63) ∧
    Mk w w.heap.size W u v (.int .i64 0) (.int .i64 0) (.int .i64 0) (.int .i64 0) (.int .i64 0) (.int .i64 0) (.int .i64 0) (.int .i64 0) (.bool false) (.int .i64 0) (.slice none 0 0) (.slice none 0 0) ∧ w.heap.size + 2 < W.heap.size := by
  refine ⟨_, rfl, ?_⟩
  obtain ⟨W1, h1⟩ : ∃ W1, W1 = w.alloc (Obj.cells #[Value.int IntKind.i64 0, Value.int IntKind.i64 0, Value.int IntKind.i64 0, Value.int IntKind.i64 0, Value.int IntKind.i64 0, Value.int IntKind.i64 0, Value.int IntKind.i64 0, Value.int IntKind.i64 0, Value.bool false, Value.int IntKind.i64 0, Value.slice none 0 0, Value.slice none 0 0] 25) := ⟨_, rfl⟩
  obtain ⟨W2, h2⟩ : ∃ W2, W2 = W1.alloc (Obj.cells #[Value.int IntKind.i64 0, Value.int IntKind.i64 0, Value.int IntKind.i64 0, Value.int IntKind.i64 0, Value.int IntKind.i64 0, Value.int IntKind.i64 0, Value.int IntKind.i64 0, Value.int IntKind.i64 0, Value.bool false, Value.int IntKind.i64 0, Value.slice none 0 0, Value.slice none 0 0] 25) := ⟨_, rfl⟩
  rw [← h1, ← h2]
  have b1 : Below w.heap.size w W1 := by rw [h1]; exact below_alloc _ _
  have b2 : Below W1.heap.size W1 W2 := by rw [h2]; exact below_alloc _ _
  have b3 := below_alloc W2 (Obj.cells #[u, v] 63)
  have s1 : W1.heap.size = w.heap.size + 1 := by rw [h1, World.size_alloc]
  have s2 : W2.heap.size = w.heap.size + 2 := by rw [h2, World.size_alloc, s1]
  have z1 : M12 W1 w.heap.size (.int .i64 0) (.int .i64 0) (.int .i64 0) (.int .i64 0) (.int .i64 0) (.int .i64 0) (.int .i64 0) (.int .i64 0) (.bool false) (.int .i64 0) (.slice none 0 0) (.slice none 0 0) := by rw [h1]; exact heap_alloc_new w _
  have m1 : M12 W2 (w.heap.size + 1) (.int .i64 0) (.int .i64 0) (.int .i64 0) (.int .i64 0) (.int .i64 0) (.int .i64 0) (.int .i64 0) (.int .i64 0) (.bool false) (.int .i64 0) (.slice none 0 0) (.slice none 0 0) := by rw [h2, ← s1]; exact heap_alloc_new W1 _
  have r1 : RB (W2.alloc (Obj.cells #[u, v] 63)) (w.heap.size + 2) u v := by rw [← s2]; exact heap_alloc_new W2 _
  exact ⟨⟨(z1.below b2).below b3, m1.below b3, r1, (b1.trans (b2.mono (by omega))).trans (b3.mono (by omega))⟩, r1.lt⟩

end Go.Proofs.YtfblgkcipnkhaaaGreatDoor.pk

/-
  The document's own reader of a message: its first half.
-/
namespace Go.Proofs.YtfblgkcipnkhaaaGreatDoor.pk
open Go Go.RowKit
set_option maxRecDepth 100000

/-- Where the loop over the entries stands. -/
structure LD (cnt j : Nat) (s : List UInt8) (k : Nat) (okb : Bool) (es : List En) (sF : List UInt8) (kF : Nat) (okF : Bool) (esF : List En) : Prop where
  le : j ≤ cnt
  st : (takeEs (cnt - j) (s, k)).1.1 = (sF, kF)
  bo : (okb && (takeEs (cnt - j) (s, k)).1.2) = okF
  li : es ++ (takeEs (cnt - j) (s, k)).2 = esF
  fit : ∀ e ∈ es, e.ok
theorem rd_ok {s s' : List UInt8} {k k' : Nat} {e : En} (h : takeE (s, k) = ((s', k'), e)) : e.ok := by
  rcases h1 : rUint 1099511627776 (s, k) with ⟨⟨s1, k1⟩, v1⟩
  rcases h2 : rUint 1099511627776 (s1, k1) with ⟨⟨s2, k2⟩, v2⟩
  rcases h3 : rUint 2 (s2, k2) with ⟨⟨s3, k3⟩, v3⟩
  rcases h4 : rBytes 98 4096 (s3, k3) with ⟨⟨s4', k4'⟩, x⟩
  have l1 : v1 ≤ 1099511627776 := by have := rUint_le 1099511627776 (s, k); rw [h1] at this; exact this
  have l2 : v2 ≤ 1099511627776 := by have := rUint_le 1099511627776 (s1, k1); rw [h2] at this; exact this
  have l3 : v3 ≤ 2 := by have := rUint_le 2 (s2, k2); rw [h3] at this; exact this
  unfold takeE at h
  simp only [h1, h2, h3, h4, Prod.mk.injEq] at h
  obtain ⟨-, rfl⟩ := h
  unfold En.ok
  refine ⟨?_, ?_, ?_⟩ <;> (try unfold inI) <;> simp only <;> omega
theorem decE_ok {b : List UInt8} {e : En} {f : Nat} (h : decE b = (e, f)) : e.ok := by
  rcases ht : takeE (b, 0) with ⟨⟨s, k⟩, e0⟩
  unfold decE at h
  simp only [ht] at h
  split at h
  · injection h with a b
    subst a
    exact ze_ok
  · injection h with a b
    subst a
    exact rd_ok ht
section
variable {cnt j : Nat} {s : List UInt8} {k : Nat} {okb : Bool} {es : List En} {sF : List UInt8} {kF : Nat} {okF : Bool} {esF : List En}
theorem ld_start (h : takeEs cnt (s, k) = (((sF, kF), okF), esF)) : LD cnt 0 s k true [] sF kF okF esF := by
  refine ⟨Nat.zero_le _, ?_, ?_, ?_, fun e he => by cases he⟩ <;> rw [Nat.sub_zero, h] <;> rfl
theorem ld_end (h : LD cnt j s k okb es sF kF okF esF) (hend : j = cnt ∨ k ≠ 0) : s = sF ∧ k = kF ∧ okb = okF ∧ es = esF := by
  have ht : takeEs (cnt - j) (s, k) = (((s, k), true), []) := by
    rcases hend with rfl | hk
    · rw [Nat.sub_self]; rfl
    · cases hc : cnt - j with
      | zero => rfl
      | succ q => unfold takeEs; rw [if_pos hk]
  obtain ⟨_, h1, h2, h3, _⟩ := h
  rw [ht] at h1 h2 h3
  simp only [Prod.mk.injEq, Bool.and_true, List.append_nil] at h1 h2 h3
  exact ⟨h1.1, h1.2, h2, h3⟩
theorem ld_next (h : LD cnt j s 0 okb es sF kF okF esF) (hj : j < cnt) {s1 x : List UInt8} {k1 f : Nat} {e : En} (hr : rBytes 98 4200 (s, 0) = ((s1, k1), x)) (hd : decE x = (e, f)) : LD cnt (j + 1) s1 k1 (okb && decide (f = 0)) (es ++ [e]) sF kF okF esF := by
  have hc : cnt - j = (cnt - (j + 1)) + 1 := by omega
  have ht : takeEs (cnt - j) (s, 0) = (((takeEs (cnt - (j + 1)) (s1, k1)).1.1, decide (f = 0) && (takeEs (cnt - (j + 1)) (s1, k1)).1.2), e :: (takeEs (cnt - (j + 1)) (s1, k1)).2) := by
    rw [hc]
    conv => lhs; unfold takeEs
    rw [if_neg (fun h => h rfl)]
    simp only [hr, hd]
  obtain ⟨_, h1, h2, h3, h4⟩ := h
  rw [ht] at h1 h2 h3
  refine ⟨hj, h1, by rw [← h2, Bool.and_assoc], by rw [← h3, List.append_assoc]; rfl, fun y hy => ?_⟩
  rcases List.mem_append.mp hy with hy | hy
  · exact h4 y hy
  · rw [List.mem_singleton.mp hy]; exact decE_ok hd
end
theorem OwnE.setp {w : World} {C B : Nat} {t : TypeId} {v : Value} {l : List En} (h : OwnE w C (fun k => k < B) t v l) (p : Addr) (h1 : B ≤ p.block) (h2 : p.block < C) (u : Value) : OwnE (w.setCell p u) C (fun k => k < B) t v l :=
  h.kept (fun k _ ho => Below.heap_setCell _ _ _ _ (by rcases ho with h3 | h3; · have h4 : k < B := h3; omega
                                                       · have h4 := (h.lt k h3).1; omega)) (by simp)
theorem M12.beneath {w w' : World} {g Q : Nat} {v0 v1 v2 v3 v4 v5 v6 v7 v8 v9 v10 v11 : Value} (h : M12 w g v0 v1 v2 v3 v4 v5 v6 v7 v8 v9 v10 v11) (hb : Below Q w w') (hQ : g < Q) : M12 w' g v0 v1 v2 v3 v4 v5 v6 v7 v8 v9 v10 v11 := (hb.block g hQ).trans h
theorem Mk.beneath {w W W' : World} {g : Nat} {x0 x1 v0 v1 v2 v3 v4 v5 v6 v7 v8 v9 v10 v11 : Value} (h : Mk w g W x0 x1 v0 v1 v2 v3 v4 v5 v6 v7 v8 v9 v10 v11) (hb : Below (g + 3) W W') : Mk w g W' x0 x1 v0 v1 v2 v3 v4 v5 v6 v7 v8 v9 v10 v11 :=
  ⟨h.z.beneath hb (by omega), h.m.beneath hb (by omega), (hb.block (g + 2) (by omega)).trans h.r, h.bel.trans (hb.mono (by omega))⟩
theorem OwnE.put {w F : World} {g B : Nat} {t : TypeId} {v : Value} {l : List En} (h : OwnE w (g + 3) (fun k => k < B) t v l) (hB : B ≤ g) (ho : ∀ k, k ≠ g → F.heap[k]? = w.heap[k]?) (hs : F.heap.size = w.heap.size) : OwnE F (g + 3) (fun k => k < B) t v l :=
  h.kept (fun k _ hk => ho k (by rcases hk with h3 | h3; · have h4 : k < B := h3; omega
                                 · have h4 := (h.lt k h3).1; omega)) (Nat.le_of_eq hs.symm)
/-- A message's bytes and entries, in blocks of T. -/
structure InT (m : Ms) (Ad : Option Addr) (nd cd : Nat) (Ae : Option Addr) (ne ce : Nat) (T : Nat → Prop) (w : World) : Prop where
  data : SlT w T (.slice Ad nd cd) m.data
  ents : EntsT w T (.slice Ae ne ce) m.ents
  fit : ∀ e ∈ m.ents, e.ok
  i0 : inI m.kind ∧ inI m.frm ∧ inI m.to ∧ inI m.term ∧ inI m.index ∧ inI m.logTerm ∧ inI m.commit ∧ inI m.round ∧ inI m.off
theorem InT.inM {m : Ms} {Ad : Option Addr} {nd cd : Nat} {Ae : Option Addr} {ne ce : Nat} {T : Nat → Prop} {w : World} (h : InT m Ad nd cd Ae ne ce T w) (hT : ∀ k, T k → k < w.heap.size) : InM m Ad nd cd Ae ne ce w :=
  ⟨h.data.mono hT, ⟨h.ents.move (fun _ _ _ => rfl) hT, h.fit⟩, h.i0⟩
theorem InT.move {m : Ms} {Ad : Option Addr} {nd cd : Nat} {Ae : Option Addr} {ne ce : Nat} {T T' : Nat → Prop} {w w' : World} (h : InT m Ad nd cd Ae ne ce T w) (hk : ∀ k, T k → k < w.heap.size → w'.heap[k]? = w.heap[k]?) (ht : ∀ k, T k → T' k) : InT m Ad nd cd Ae ne ce T' w' :=
  ⟨(h.data.kept hk).mono ht, h.ents.move hk ht, h.fit, h.i0⟩
theorem info_ref_ : (Tryz.prog.info? 71).map (fun i => (i.zero, i.size, i.bytes)) = some (some (.agg #[.int .i64 0, .int .i64 0, .int .i64 0, .slice none 0 0]), 4, 48) := by kernel_rfl

set_option maxHeartbeats 16000000 in
theorem Dec_walk (A : Option Addr) (n c : Nat) (b : List UInt8) (w : World) (B : Nat) (hB : B ≤ w.heap.size) (h : Sl w B (.slice A n c) b)
    (s1 : List UInt8) (k1 : Nat) (v1 : Nat) (n1 : Nat) (h1 : rUint 1099511627776 (b, 0) = ((s1, k1), v1)) (hn1 : n1 = s1.length)
    (s2 : List UInt8) (k2 : Nat) (v2 : Nat) (n2 : Nat) (h2 : rUint 1099511627776 (s1, k1) = ((s2, k2), v2)) (hn2 : n2 = s2.length)
    (s3 : List UInt8) (k3 : Nat) (v3 : Nat) (n3 : Nat) (h3 : rUint 1099511627776 (s2, k2) = ((s3, k3), v3)) (hn3 : n3 = s3.length)
    (s4 : List UInt8) (k4 : Nat) (v4 : Nat) (n4 : Nat) (h4 : rUint 1099511627776 (s3, k3) = ((s4, k4), v4)) (hn4 : n4 = s4.length)
    (s5 : List UInt8) (k5 : Nat) (v5 : Nat) (n5 : Nat) (h5 : rUint 1099511627776 (s4, k4) = ((s5, k5), v5)) (hn5 : n5 = s5.length)
    (s6 : List UInt8) (k6 : Nat) (v6 : Nat) (n6 : Nat) (h6 : rUint 1099511627776 (s5, k5) = ((s6, k6), v6)) (hn6 : n6 = s6.length)
    (s7 : List UInt8) (k7 : Nat) (v7 : Nat) (n7 : Nat) (h7 : rUint 1099511627776 (s6, k6) = ((s7, k7), v7)) (hn7 : n7 = s7.length)
    (s8 : List UInt8) (k8 : Nat) (v8 : Nat) (n8 : Nat) (h8 : rUint 1099511627776 (s7, k7) = ((s8, k8), v8)) (hn8 : n8 = s8.length)
    (s9 : List UInt8) (k9 : Nat) (v9 : Bool) (n9 : Nat) (h9 : rBool (s8, k8) = ((s9, k9), v9)) (hn9 : n9 = s9.length)
    (s10 : List UInt8) (k10 : Nat) (v10 : Nat) (n10 : Nat) (h10 : rUint 1099511627776 (s9, k9) = ((s10, k10), v10)) (hn10 : n10 = s10.length)
    (s11 : List UInt8) (k11 : Nat) (v11 : List UInt8) (n11 : Nat) (h11 : rBytes 98 4096 (s10, k10) = ((s11, k11), v11)) (hn11 : n11 = s11.length)
    (m11 : Nat) (hm : m11 = v11.length) (s12 : List UInt8) (k12 cnt n12 : Nat) (h12 : rCount 64 (s11, k11) = ((s12, k12), cnt)) (hn12 : n12 = s12.length)
    (sF : List UInt8) (kF : Nat) (okF : Bool) (esF : List En) (ht : takeEs cnt (s12, k12) = (((sF, kF), okF), esF)) (hcnt : cnt ≤ 64) (hi0 : inI (v1 : Int) ∧ inI (v2 : Int) ∧ inI (v3 : Int) ∧ inI (v4 : Int) ∧ inI (v5 : Int) ∧ inI (v6 : Int) ∧ inI (v7 : Int) ∧ inI (v8 : Int) ∧ inI (v10 : Int))
    (m : Ms) (kk : Nat) (hfin : (m, kk) = if (decide (doneR (sF, kF) = 0) && okF && mayM ⟨(v1 : Int), (v2 : Int), (v3 : Int), (v4 : Int), (v5 : Int), (v6 : Int), (v7 : Int), (v8 : Int), v9, (v10 : Int), v11, esF⟩) = true then (⟨(v1 : Int), (v2 : Int), (v3 : Int), (v4 : Int), (v5 : Int), (v6 : Int), (v7 : Int), (v8 : Int), v9, (v10 : Int), v11, esF⟩, 0) else (zm, 3)) (nd ne : Nat) (hnd : nd = m.data.length) (hne : ne = m.ents.length) :
    Calls Tryz.prog 12 #[.slice A n c] w fun y w' => ∃ Ad cd Ae ce, y = .returned (.tuple #[.agg #[.int .i64 m.kind, .int .i64 m.frm, .int .i64 m.to, .int .i64 m.term, .int .i64 m.index, .int .i64 m.logTerm, .int .i64 m.commit, .int .i64 m.round, .bool m.ok, .int .i64 m.off, .slice Ad nd cd, .slice Ae ne ce], .int .i64 (kk : Int)]) ∧ InT m Ad nd cd Ae ne ce (fun q => (q < B ∨ w.heap.size < q) ∧ q < w'.heap.size) w' ∧ Below w.heap.size w w' := by
  obtain ⟨W0, hW0, T0, hsz⟩ := mk_start w (.slice A n c) (.int .i64 0)
  have hS0 : Sl W0 B (.slice A n c) b := h.below (T0.bel.mono hB)
  obtain ⟨g, hge⟩ : ∃ g, g = w.heap.size := ⟨_, rfl⟩
  rw [← hge] at T0 hsz
  have hg : B ≤ g := by rw [hge]; exact hB
  have HG := Lib.hid hge
  have HGB := Lib.hid hg
  have HT0 := Lib.hid (And.intro T0 hS0)
  have HB := Lib.hid hB
  have C1 := Lib.hid fun W hB' hS => number_s A n c 0 b W B hB' hS s1 k1 v1 n1 h1 hn1
  have C2 := Lib.hid fun A c W hB' hS => number_s A n1 c k1 s1 W B hB' hS s2 k2 v2 n2 h2 hn2
  have C3 := Lib.hid fun A c W hB' hS => number_s A n2 c k2 s2 W B hB' hS s3 k3 v3 n3 h3 hn3
  have C4 := Lib.hid fun A c W hB' hS => number_s A n3 c k3 s3 W B hB' hS s4 k4 v4 n4 h4 hn4
  have C5 := Lib.hid fun A c W hB' hS => number_s A n4 c k4 s4 W B hB' hS s5 k5 v5 n5 h5 hn5
  have C6 := Lib.hid fun A c W hB' hS => number_s A n5 c k5 s5 W B hB' hS s6 k6 v6 n6 h6 hn6
  have C7 := Lib.hid fun A c W hB' hS => number_s A n6 c k6 s6 W B hB' hS s7 k7 v7 n7 h7 hn7
  have C8 := Lib.hid fun A c W hB' hS => number_s A n7 c k7 s7 W B hB' hS s8 k8 v8 n8 h8 hn8
  have C9 := Lib.hid fun A c W hB' hS => ReadBool_s A n8 c k8 s8 W B hB' hS s9 k9 n9 v9 h9 hn9
  have C10 := Lib.hid fun A c W hB' hS => number_s A n9 c k9 s9 W B hB' hS s10 k10 v10 n10 h10 hn10
  have C11 := Lib.hid fun A c W hB' hS => ReadBytes_s A n10 c k10 4096 (by omega) s10 W B hB' hS s11 v11 k11 n11 m11 h11 hn11 hm
  have C12 := Lib.hid fun A c W hB' hS => ReadCount_s A n11 c k11 64 (by omega) s11 W B hB' hS s12 k12 cnt n12 h12 hn12
  have HLD := Lib.hid (ld_start ht)
  have HNN := Lib.hid hn12
  have HCN := Lib.hid hcnt
  have HI0 := Lib.hid hi0
  have HFIN := Lib.hid hfin
  have HND := Lib.hid (And.intro hnd hne)
  have HM11 := Lib.hid hm
  have e00 : ((0 : Nat) : Int) = 0 := rfl
  rw [e00] at C1
  clear hnd hne hfin hi0 hcnt ht h T0 hS0 hg hsz hB hm h1 hn1 h2 hn2 h3 hn3 h4 hn4 h5 hn5 h6 hn6 h7 hn7 h8 hn8 h9 hn9 h10 hn10 h11 hn11 h12 hn12
  go_enter Tryz.func12, Tryz.ntmps12
  go_upto_region 3 with fail
  rw [← hW0]
  simp only [Nat.add_assoc, Nat.reduceAdd]
  rw [← HG.out]
  clear hW0 hge
  obtain ⟨x0, x1, xf0, xf1⟩ := HT0.out.1.r.facts
  go_upto_region 4 with (go_at_call 32; go_must (refine (C1.out _ (Nat.le_trans HGB.out (Nat.le_of_lt HT0.out.1.z.lt)) HT0.out.2).mono ?_; rintro y w1 ⟨A1, c1, rfl, hS1, hb1⟩; have U := HT0.out.1.call hb1; obtain ⟨x0, x1, xf0, xf1⟩ := U.r.facts; obtain ⟨e0, e1, e2, e3, e4, e5, e6, e7, e8, e9, e10, e11⟩ := cells12 U.m; have f0 := frozen_own U.m 0; have HU1 := Lib.hid (And.intro U (And.intro hS1 trivial)); clear U hb1 hS1))
  clear x0 x1 xf0 xf1 e0 e1 e2 e3 e4 e5 e6 e7 e8 e9 e10 e11 f0
  obtain ⟨W1, hW1⟩ : ∃ W, W = ((w1.setCell ⟨g + 2, 0, none⟩ (.slice A1 n1 c1)).setCell ⟨g + 2, 1, none⟩ (.int .i64 (k1 : Int))).setCell ⟨g + 1, 0, none⟩ (.int .i64 (v1 : Int)) := ⟨_, rfl⟩
  have T := (HU1.out.1.setR (.slice A1 n1 c1) (.int .i64 (k1 : Int))).set0 (.int .i64 (v1 : Int))
  have bb : Below B w1 (((w1.setCell ⟨g + 2, 0, none⟩ (.slice A1 n1 c1)).setCell ⟨g + 2, 1, none⟩ (.int .i64 (k1 : Int))).setCell ⟨g + 1, 0, none⟩ (.int .i64 (v1 : Int))) := (((Below.refl B w1).setCell (p := ⟨g + 2, 0, none⟩) (by have := HGB.out; simp only; omega) _).setCell (p := ⟨g + 2, 1, none⟩) (by have := HGB.out; simp only; omega) _).setCell (p := ⟨g + 1, 0, none⟩) (by have := HGB.out; simp only; omega) _
  have S := HU1.out.2.1.below bb
  rw [← hW1] at T S ⊢
  have HT1 := Lib.hid (And.intro T S)
  clear T S bb hW1
  obtain ⟨x0, x1, xf0, xf1⟩ := HT1.out.1.r.facts
  go_upto_region 5 with (go_at_call 32; go_must (refine (C2.out A1 c1 _ (Nat.le_trans HGB.out (Nat.le_of_lt HT1.out.1.z.lt)) HT1.out.2).mono ?_; rintro y w2 ⟨A2, c2, rfl, hS2, hb2⟩; have U := HT1.out.1.call hb2; obtain ⟨x0, x1, xf0, xf1⟩ := U.r.facts; obtain ⟨e0, e1, e2, e3, e4, e5, e6, e7, e8, e9, e10, e11⟩ := cells12 U.m; have f0 := frozen_own U.m 1; have HU2 := Lib.hid (And.intro U (And.intro hS2 trivial)); clear U hb2 hS2))
  clear x0 x1 xf0 xf1 e0 e1 e2 e3 e4 e5 e6 e7 e8 e9 e10 e11 f0
  obtain ⟨W2, hW2⟩ : ∃ W, W = ((w2.setCell ⟨g + 2, 0, none⟩ (.slice A2 n2 c2)).setCell ⟨g + 2, 1, none⟩ (.int .i64 (k2 : Int))).setCell ⟨g + 1, 1, none⟩ (.int .i64 (v2 : Int)) := ⟨_, rfl⟩
  have T := (HU2.out.1.setR (.slice A2 n2 c2) (.int .i64 (k2 : Int))).set1 (.int .i64 (v2 : Int))
  have bb : Below B w2 (((w2.setCell ⟨g + 2, 0, none⟩ (.slice A2 n2 c2)).setCell ⟨g + 2, 1, none⟩ (.int .i64 (k2 : Int))).setCell ⟨g + 1, 1, none⟩ (.int .i64 (v2 : Int))) := (((Below.refl B w2).setCell (p := ⟨g + 2, 0, none⟩) (by have := HGB.out; simp only; omega) _).setCell (p := ⟨g + 2, 1, none⟩) (by have := HGB.out; simp only; omega) _).setCell (p := ⟨g + 1, 1, none⟩) (by have := HGB.out; simp only; omega) _
  have S := HU2.out.2.1.below bb
  rw [← hW2] at T S ⊢
  have HT2 := Lib.hid (And.intro T S)
  clear T S bb hW2
  obtain ⟨x0, x1, xf0, xf1⟩ := HT2.out.1.r.facts
  go_upto_region 6 with (go_at_call 32; go_must (refine (C3.out A2 c2 _ (Nat.le_trans HGB.out (Nat.le_of_lt HT2.out.1.z.lt)) HT2.out.2).mono ?_; rintro y w3 ⟨A3, c3, rfl, hS3, hb3⟩; have U := HT2.out.1.call hb3; obtain ⟨x0, x1, xf0, xf1⟩ := U.r.facts; obtain ⟨e0, e1, e2, e3, e4, e5, e6, e7, e8, e9, e10, e11⟩ := cells12 U.m; have f0 := frozen_own U.m 2; have HU3 := Lib.hid (And.intro U (And.intro hS3 trivial)); clear U hb3 hS3))
  clear x0 x1 xf0 xf1 e0 e1 e2 e3 e4 e5 e6 e7 e8 e9 e10 e11 f0
  obtain ⟨W3, hW3⟩ : ∃ W, W = ((w3.setCell ⟨g + 2, 0, none⟩ (.slice A3 n3 c3)).setCell ⟨g + 2, 1, none⟩ (.int .i64 (k3 : Int))).setCell ⟨g + 1, 2, none⟩ (.int .i64 (v3 : Int)) := ⟨_, rfl⟩
  have T := (HU3.out.1.setR (.slice A3 n3 c3) (.int .i64 (k3 : Int))).set2 (.int .i64 (v3 : Int))
  have bb : Below B w3 (((w3.setCell ⟨g + 2, 0, none⟩ (.slice A3 n3 c3)).setCell ⟨g + 2, 1, none⟩ (.int .i64 (k3 : Int))).setCell ⟨g + 1, 2, none⟩ (.int .i64 (v3 : Int))) := (((Below.refl B w3).setCell (p := ⟨g + 2, 0, none⟩) (by have := HGB.out; simp only; omega) _).setCell (p := ⟨g + 2, 1, none⟩) (by have := HGB.out; simp only; omega) _).setCell (p := ⟨g + 1, 2, none⟩) (by have := HGB.out; simp only; omega) _
  have S := HU3.out.2.1.below bb
  rw [← hW3] at T S ⊢
  have HT3 := Lib.hid (And.intro T S)
  clear T S bb hW3
  obtain ⟨x0, x1, xf0, xf1⟩ := HT3.out.1.r.facts
  go_upto_region 7 with (go_at_call 32; go_must (refine (C4.out A3 c3 _ (Nat.le_trans HGB.out (Nat.le_of_lt HT3.out.1.z.lt)) HT3.out.2).mono ?_; rintro y w4 ⟨A4, c4, rfl, hS4, hb4⟩; have U := HT3.out.1.call hb4; obtain ⟨x0, x1, xf0, xf1⟩ := U.r.facts; obtain ⟨e0, e1, e2, e3, e4, e5, e6, e7, e8, e9, e10, e11⟩ := cells12 U.m; have f0 := frozen_own U.m 3; have HU4 := Lib.hid (And.intro U (And.intro hS4 trivial)); clear U hb4 hS4))
  clear x0 x1 xf0 xf1 e0 e1 e2 e3 e4 e5 e6 e7 e8 e9 e10 e11 f0
  obtain ⟨W4, hW4⟩ : ∃ W, W = ((w4.setCell ⟨g + 2, 0, none⟩ (.slice A4 n4 c4)).setCell ⟨g + 2, 1, none⟩ (.int .i64 (k4 : Int))).setCell ⟨g + 1, 3, none⟩ (.int .i64 (v4 : Int)) := ⟨_, rfl⟩
  have T := (HU4.out.1.setR (.slice A4 n4 c4) (.int .i64 (k4 : Int))).set3 (.int .i64 (v4 : Int))
  have bb : Below B w4 (((w4.setCell ⟨g + 2, 0, none⟩ (.slice A4 n4 c4)).setCell ⟨g + 2, 1, none⟩ (.int .i64 (k4 : Int))).setCell ⟨g + 1, 3, none⟩ (.int .i64 (v4 : Int))) := (((Below.refl B w4).setCell (p := ⟨g + 2, 0, none⟩) (by have := HGB.out; simp only; omega) _).setCell (p := ⟨g + 2, 1, none⟩) (by have := HGB.out; simp only; omega) _).setCell (p := ⟨g + 1, 3, none⟩) (by have := HGB.out; simp only; omega) _
  have S := HU4.out.2.1.below bb
  rw [← hW4] at T S ⊢
  have HT4 := Lib.hid (And.intro T S)
  clear T S bb hW4
  obtain ⟨x0, x1, xf0, xf1⟩ := HT4.out.1.r.facts
  go_upto_region 8 with (go_at_call 32; go_must (refine (C5.out A4 c4 _ (Nat.le_trans HGB.out (Nat.le_of_lt HT4.out.1.z.lt)) HT4.out.2).mono ?_; rintro y w5 ⟨A5, c5, rfl, hS5, hb5⟩; have U := HT4.out.1.call hb5; obtain ⟨x0, x1, xf0, xf1⟩ := U.r.facts; obtain ⟨e0, e1, e2, e3, e4, e5, e6, e7, e8, e9, e10, e11⟩ := cells12 U.m; have f0 := frozen_own U.m 4; have HU5 := Lib.hid (And.intro U (And.intro hS5 trivial)); clear U hb5 hS5))
  clear x0 x1 xf0 xf1 e0 e1 e2 e3 e4 e5 e6 e7 e8 e9 e10 e11 f0
  obtain ⟨W5, hW5⟩ : ∃ W, W = ((w5.setCell ⟨g + 2, 0, none⟩ (.slice A5 n5 c5)).setCell ⟨g + 2, 1, none⟩ (.int .i64 (k5 : Int))).setCell ⟨g + 1, 4, none⟩ (.int .i64 (v5 : Int)) := ⟨_, rfl⟩
  have T := (HU5.out.1.setR (.slice A5 n5 c5) (.int .i64 (k5 : Int))).set4 (.int .i64 (v5 : Int))
  have bb : Below B w5 (((w5.setCell ⟨g + 2, 0, none⟩ (.slice A5 n5 c5)).setCell ⟨g + 2, 1, none⟩ (.int .i64 (k5 : Int))).setCell ⟨g + 1, 4, none⟩ (.int .i64 (v5 : Int))) := (((Below.refl B w5).setCell (p := ⟨g + 2, 0, none⟩) (by have := HGB.out; simp only; omega) _).setCell (p := ⟨g + 2, 1, none⟩) (by have := HGB.out; simp only; omega) _).setCell (p := ⟨g + 1, 4, none⟩) (by have := HGB.out; simp only; omega) _
  have S := HU5.out.2.1.below bb
  rw [← hW5] at T S ⊢
  have HT5 := Lib.hid (And.intro T S)
  clear T S bb hW5
  obtain ⟨x0, x1, xf0, xf1⟩ := HT5.out.1.r.facts
  go_upto_region 9 with (go_at_call 32; go_must (refine (C6.out A5 c5 _ (Nat.le_trans HGB.out (Nat.le_of_lt HT5.out.1.z.lt)) HT5.out.2).mono ?_; rintro y w6 ⟨A6, c6, rfl, hS6, hb6⟩; have U := HT5.out.1.call hb6; obtain ⟨x0, x1, xf0, xf1⟩ := U.r.facts; obtain ⟨e0, e1, e2, e3, e4, e5, e6, e7, e8, e9, e10, e11⟩ := cells12 U.m; have f0 := frozen_own U.m 5; have HU6 := Lib.hid (And.intro U (And.intro hS6 trivial)); clear U hb6 hS6))
  clear x0 x1 xf0 xf1 e0 e1 e2 e3 e4 e5 e6 e7 e8 e9 e10 e11 f0
  obtain ⟨W6, hW6⟩ : ∃ W, W = ((w6.setCell ⟨g + 2, 0, none⟩ (.slice A6 n6 c6)).setCell ⟨g + 2, 1, none⟩ (.int .i64 (k6 : Int))).setCell ⟨g + 1, 5, none⟩ (.int .i64 (v6 : Int)) := ⟨_, rfl⟩
  have T := (HU6.out.1.setR (.slice A6 n6 c6) (.int .i64 (k6 : Int))).set5 (.int .i64 (v6 : Int))
  have bb : Below B w6 (((w6.setCell ⟨g + 2, 0, none⟩ (.slice A6 n6 c6)).setCell ⟨g + 2, 1, none⟩ (.int .i64 (k6 : Int))).setCell ⟨g + 1, 5, none⟩ (.int .i64 (v6 : Int))) := (((Below.refl B w6).setCell (p := ⟨g + 2, 0, none⟩) (by have := HGB.out; simp only; omega) _).setCell (p := ⟨g + 2, 1, none⟩) (by have := HGB.out; simp only; omega) _).setCell (p := ⟨g + 1, 5, none⟩) (by have := HGB.out; simp only; omega) _
  have S := HU6.out.2.1.below bb
  rw [← hW6] at T S ⊢
  have HT6 := Lib.hid (And.intro T S)
  clear T S bb hW6
  obtain ⟨x0, x1, xf0, xf1⟩ := HT6.out.1.r.facts
  go_upto_region 10 with (go_at_call 32; go_must (refine (C7.out A6 c6 _ (Nat.le_trans HGB.out (Nat.le_of_lt HT6.out.1.z.lt)) HT6.out.2).mono ?_; rintro y w7 ⟨A7, c7, rfl, hS7, hb7⟩; have U := HT6.out.1.call hb7; obtain ⟨x0, x1, xf0, xf1⟩ := U.r.facts; obtain ⟨e0, e1, e2, e3, e4, e5, e6, e7, e8, e9, e10, e11⟩ := cells12 U.m; have f0 := frozen_own U.m 6; have HU7 := Lib.hid (And.intro U (And.intro hS7 trivial)); clear U hb7 hS7))
  clear x0 x1 xf0 xf1 e0 e1 e2 e3 e4 e5 e6 e7 e8 e9 e10 e11 f0
  obtain ⟨W7, hW7⟩ : ∃ W, W = ((w7.setCell ⟨g + 2, 0, none⟩ (.slice A7 n7 c7)).setCell ⟨g + 2, 1, none⟩ (.int .i64 (k7 : Int))).setCell ⟨g + 1, 6, none⟩ (.int .i64 (v7 : Int)) := ⟨_, rfl⟩
  have T := (HU7.out.1.setR (.slice A7 n7 c7) (.int .i64 (k7 : Int))).set6 (.int .i64 (v7 : Int))
  have bb : Below B w7 (((w7.setCell ⟨g + 2, 0, none⟩ (.slice A7 n7 c7)).setCell ⟨g + 2, 1, none⟩ (.int .i64 (k7 : Int))).setCell ⟨g + 1, 6, none⟩ (.int .i64 (v7 : Int))) := (((Below.refl B w7).setCell (p := ⟨g + 2, 0, none⟩) (by have := HGB.out; simp only; omega) _).setCell (p := ⟨g + 2, 1, none⟩) (by have := HGB.out; simp only; omega) _).setCell (p := ⟨g + 1, 6, none⟩) (by have := HGB.out; simp only; omega) _
  have S := HU7.out.2.1.below bb
  rw [← hW7] at T S ⊢
  have HT7 := Lib.hid (And.intro T S)
  clear T S bb hW7
  obtain ⟨x0, x1, xf0, xf1⟩ := HT7.out.1.r.facts
  go_upto_region 11 with (go_at_call 32; go_must (refine (C8.out A7 c7 _ (Nat.le_trans HGB.out (Nat.le_of_lt HT7.out.1.z.lt)) HT7.out.2).mono ?_; rintro y w8 ⟨A8, c8, rfl, hS8, hb8⟩; have U := HT7.out.1.call hb8; obtain ⟨x0, x1, xf0, xf1⟩ := U.r.facts; obtain ⟨e0, e1, e2, e3, e4, e5, e6, e7, e8, e9, e10, e11⟩ := cells12 U.m; have f0 := frozen_own U.m 7; have HU8 := Lib.hid (And.intro U (And.intro hS8 trivial)); clear U hb8 hS8))
  clear x0 x1 xf0 xf1 e0 e1 e2 e3 e4 e5 e6 e7 e8 e9 e10 e11 f0
  obtain ⟨W8, hW8⟩ : ∃ W, W = ((w8.setCell ⟨g + 2, 0, none⟩ (.slice A8 n8 c8)).setCell ⟨g + 2, 1, none⟩ (.int .i64 (k8 : Int))).setCell ⟨g + 1, 7, none⟩ (.int .i64 (v8 : Int)) := ⟨_, rfl⟩
  have T := (HU8.out.1.setR (.slice A8 n8 c8) (.int .i64 (k8 : Int))).set7 (.int .i64 (v8 : Int))
  have bb : Below B w8 (((w8.setCell ⟨g + 2, 0, none⟩ (.slice A8 n8 c8)).setCell ⟨g + 2, 1, none⟩ (.int .i64 (k8 : Int))).setCell ⟨g + 1, 7, none⟩ (.int .i64 (v8 : Int))) := (((Below.refl B w8).setCell (p := ⟨g + 2, 0, none⟩) (by have := HGB.out; simp only; omega) _).setCell (p := ⟨g + 2, 1, none⟩) (by have := HGB.out; simp only; omega) _).setCell (p := ⟨g + 1, 7, none⟩) (by have := HGB.out; simp only; omega) _
  have S := HU8.out.2.1.below bb
  rw [← hW8] at T S ⊢
  have HT8 := Lib.hid (And.intro T S)
  clear T S bb hW8
  obtain ⟨x0, x1, xf0, xf1⟩ := HT8.out.1.r.facts
  go_upto_region 12 with (go_at_call 33; go_must (refine (C9.out A8 c8 _ (Nat.le_trans HGB.out (Nat.le_of_lt HT8.out.1.z.lt)) HT8.out.2).mono ?_; rintro y w9 ⟨A9, c9, rfl, hS9, hb9⟩; have U := HT8.out.1.call hb9; obtain ⟨x0, x1, xf0, xf1⟩ := U.r.facts; obtain ⟨e0, e1, e2, e3, e4, e5, e6, e7, e8, e9, e10, e11⟩ := cells12 U.m; have f0 := frozen_own U.m 8; have HU9 := Lib.hid (And.intro U (And.intro hS9 trivial)); clear U hb9 hS9))
  clear x0 x1 xf0 xf1 e0 e1 e2 e3 e4 e5 e6 e7 e8 e9 e10 e11 f0
  obtain ⟨W9, hW9⟩ : ∃ W, W = ((w9.setCell ⟨g + 2, 0, none⟩ (.slice A9 n9 c9)).setCell ⟨g + 2, 1, none⟩ (.int .i64 (k9 : Int))).setCell ⟨g + 1, 8, none⟩ (.bool v9) := ⟨_, rfl⟩
  have T := (HU9.out.1.setR (.slice A9 n9 c9) (.int .i64 (k9 : Int))).set8 (.bool v9)
  have bb : Below B w9 (((w9.setCell ⟨g + 2, 0, none⟩ (.slice A9 n9 c9)).setCell ⟨g + 2, 1, none⟩ (.int .i64 (k9 : Int))).setCell ⟨g + 1, 8, none⟩ (.bool v9)) := (((Below.refl B w9).setCell (p := ⟨g + 2, 0, none⟩) (by have := HGB.out; simp only; omega) _).setCell (p := ⟨g + 2, 1, none⟩) (by have := HGB.out; simp only; omega) _).setCell (p := ⟨g + 1, 8, none⟩) (by have := HGB.out; simp only; omega) _
  have S := HU9.out.2.1.below bb
  rw [← hW9] at T S ⊢
  have HT9 := Lib.hid (And.intro T S)
  clear T S bb hW9
  obtain ⟨x0, x1, xf0, xf1⟩ := HT9.out.1.r.facts
  go_upto_region 13 with (go_at_call 32; go_must (refine (C10.out A9 c9 _ (Nat.le_trans HGB.out (Nat.le_of_lt HT9.out.1.z.lt)) HT9.out.2).mono ?_; rintro y w10 ⟨A10, c10, rfl, hS10, hb10⟩; have U := HT9.out.1.call hb10; obtain ⟨x0, x1, xf0, xf1⟩ := U.r.facts; obtain ⟨e0, e1, e2, e3, e4, e5, e6, e7, e8, e9, e10, e11⟩ := cells12 U.m; have f0 := frozen_own U.m 9; have HU10 := Lib.hid (And.intro U (And.intro hS10 trivial)); clear U hb10 hS10))
  clear x0 x1 xf0 xf1 e0 e1 e2 e3 e4 e5 e6 e7 e8 e9 e10 e11 f0
  obtain ⟨W10, hW10⟩ : ∃ W, W = ((w10.setCell ⟨g + 2, 0, none⟩ (.slice A10 n10 c10)).setCell ⟨g + 2, 1, none⟩ (.int .i64 (k10 : Int))).setCell ⟨g + 1, 9, none⟩ (.int .i64 (v10 : Int)) := ⟨_, rfl⟩
  have T := (HU10.out.1.setR (.slice A10 n10 c10) (.int .i64 (k10 : Int))).set9 (.int .i64 (v10 : Int))
  have bb : Below B w10 (((w10.setCell ⟨g + 2, 0, none⟩ (.slice A10 n10 c10)).setCell ⟨g + 2, 1, none⟩ (.int .i64 (k10 : Int))).setCell ⟨g + 1, 9, none⟩ (.int .i64 (v10 : Int))) := (((Below.refl B w10).setCell (p := ⟨g + 2, 0, none⟩) (by have := HGB.out; simp only; omega) _).setCell (p := ⟨g + 2, 1, none⟩) (by have := HGB.out; simp only; omega) _).setCell (p := ⟨g + 1, 9, none⟩) (by have := HGB.out; simp only; omega) _
  have S := HU10.out.2.1.below bb
  rw [← hW10] at T S ⊢
  have HT10 := Lib.hid (And.intro T S)
  clear T S bb hW10
  obtain ⟨x0, x1, xf0, xf1⟩ := HT10.out.1.r.facts
  go_upto_region 14 with (go_at_call 34; go_must (refine (C11.out A10 c10 _ (Nat.le_trans HGB.out (Nat.le_of_lt HT10.out.1.z.lt)) HT10.out.2).mono ?_; rintro y w11 ⟨A11, c11, Ab, cb, rfl, hS11, hX, hb11⟩; have U := HT10.out.1.call hb11; obtain ⟨x0, x1, xf0, xf1⟩ := U.r.facts; obtain ⟨e0, e1, e2, e3, e4, e5, e6, e7, e8, e9, e10, e11⟩ := cells12 U.m; have f0 := frozen_own U.m 10; have HU11 := Lib.hid (And.intro U (And.intro hS11 hX)); clear U hb11 hS11 hX))
  clear x0 x1 xf0 xf1 e0 e1 e2 e3 e4 e5 e6 e7 e8 e9 e10 e11 f0
  obtain ⟨W11, hW11⟩ : ∃ W, W = ((w11.setCell ⟨g + 2, 0, none⟩ (.slice A11 n11 c11)).setCell ⟨g + 2, 1, none⟩ (.int .i64 (k11 : Int))).setCell ⟨g + 1, 10, none⟩ (.slice Ab m11 cb) := ⟨_, rfl⟩
  have T := (HU11.out.1.setR (.slice A11 n11 c11) (.int .i64 (k11 : Int))).set10 (.slice Ab m11 cb)
  have bb : Below B w11 (((w11.setCell ⟨g + 2, 0, none⟩ (.slice A11 n11 c11)).setCell ⟨g + 2, 1, none⟩ (.int .i64 (k11 : Int))).setCell ⟨g + 1, 10, none⟩ (.slice Ab m11 cb)) := (((Below.refl B w11).setCell (p := ⟨g + 2, 0, none⟩) (by have := HGB.out; simp only; omega) _).setCell (p := ⟨g + 2, 1, none⟩) (by have := HGB.out; simp only; omega) _).setCell (p := ⟨g + 1, 10, none⟩) (by have := HGB.out; simp only; omega) _
  have S := HU11.out.2.1.below bb
  have X := HU11.out.2.2.below bb
  rw [← hW11] at T S X ⊢
  have HT11 := Lib.hid (And.intro T (And.intro S X))
  clear X
  clear T S bb hW11
  obtain ⟨x0, x1, xf0, xf1⟩ := HT11.out.1.r.facts
  go_upto_region 15 with (go_at_call 35; go_must (refine (C12.out A11 c11 _ (Nat.le_trans HGB.out (Nat.le_of_lt HT11.out.1.z.lt)) HT11.out.2.1).mono ?_; rintro y w12 ⟨A12, c12, rfl, hS12, hb12⟩; have U := HT11.out.1.call hb12; obtain ⟨x0, x1, xf0, xf1⟩ := U.r.facts; have HU12 := Lib.hid (And.intro U (And.intro hS12 (HT11.out.2.2.below (hb12.mono (Nat.le_trans HGB.out (Nat.le_of_lt HT11.out.1.z.lt)))))); clear U hb12 hS12))
  clear x0 x1 xf0 xf1
  obtain ⟨W12, hW12⟩ : ∃ W, W = (w12.setCell ⟨g + 2, 0, none⟩ (.slice A12 n12 c12)).setCell ⟨g + 2, 1, none⟩ (.int .i64 (k12 : Int)) := ⟨_, rfl⟩
  have T := HU12.out.1.setR (.slice A12 n12 c12) (.int .i64 (k12 : Int))
  have bb : Below B w12 ((w12.setCell ⟨g + 2, 0, none⟩ (.slice A12 n12 c12)).setCell ⟨g + 2, 1, none⟩ (.int .i64 (k12 : Int))) := ((Below.refl B w12).setCell (p := ⟨g + 2, 0, none⟩) (by have := HGB.out; simp only; omega) _).setCell (p := ⟨g + 2, 1, none⟩) (by have := HGB.out; simp only; omega) _
  have S := HU12.out.2.1.below bb
  have X := HU12.out.2.2.below bb
  rw [← hW12] at T S X ⊢
  have HT12 := Lib.hid (And.intro T (And.intro S X))
  clear T S X bb hW12
  go_wp2_with fail
  go_loopw [7, 8] (fun okv ii wr => ∃ (j : Nat) (es : List En) (okb : Bool) (s : List UInt8) (k nn : Nat) (A' : Option Addr) (c' : Nat) (va : Value), okv = .bool okb ∧ ii = .int .i64 (j : Int) ∧ es.length = j ∧ nn = s.length ∧ Mk w g wr (.slice A' nn c') (.int .i64 (k : Int)) (.int .i64 (v1 : Int)) (.int .i64 (v2 : Int)) (.int .i64 (v3 : Int)) (.int .i64 (v4 : Int)) (.int .i64 (v5 : Int)) (.int .i64 (v6 : Int)) (.int .i64 (v7 : Int)) (.int .i64 (v8 : Int)) (.bool v9) (.int .i64 (v10 : Int)) (.slice Ab m11 cb) va ∧ Sl wr B (.slice A' nn c') s ∧ Sl wr B (.slice Ab m11 cb) v11 ∧ OwnE wr (g + 3) (fun k => k < B) 71 va es ∧ LD cnt j s k okb es sF kF okF esF) (fun _ ii _ => cnt - (intOf ii).toNat)
  case atStart => exact ⟨0, [], true, s12, k12, n12, A12, c12, .slice none 0 0, rfl, rfl, rfl, HNN.out, HT12.out.1, HT12.out.2.1, HT12.out.2.2, OwnE.nil_ _ _ _ _, HLD.out⟩
  case round =>
    obtain ⟨j, es, okb, s, k, nn, A', c', va, rfl, rfl, hes, hnn, hmk, hs, hx, how, hld⟩ := hrel
    have hBg := HGB.out
    obtain ⟨Av, cv, rfl, -, -⟩ := how.form hes
    by_cases hgo : j < cnt ∧ k = 0
    · obtain ⟨hlt, rfl⟩ := hgo
      have i1 : (j : Int) < (cnt : Int) := by omega
      have e00 : ((0 : Nat) : Int) = 0 := rfl
      rw [e00] at hmk
      rcases hrb : rBytes 98 4200 (s, 0) with ⟨⟨t1, q1⟩, x⟩
      rcases hde : decE x with ⟨e, f⟩
      obtain ⟨nn1, hnn1⟩ : ∃ nn1, nn1 = t1.length := ⟨_, rfl⟩
      obtain ⟨mx, hmx⟩ : ∃ mx, mx = x.length := ⟨_, rfl⟩
      obtain ⟨me, hme⟩ : ∃ me, me = e.data.length := ⟨_, rfl⟩
      have hsB : B ≤ wr.heap.size := Nat.le_trans hBg (Nat.le_of_lt hmk.z.lt)
      have CR := Lib.hid (ReadBytes_s A' nn c' 0 4200 (by omega) s wr B hsB hs t1 x q1 nn1 mx hrb hnn1 hmx)
      have CD := Lib.hid fun Ax cx W hB' hS => RefDec_s Ax mx cx x W B hB' hS e f me hde hme
      have HM := Lib.hid (And.intro hmk (And.intro hx (And.intro how hsB)))
      have HL := Lib.hid (ld_next hld hlt hrb hde)
      have HK := Lib.hid (And.intro hes (And.intro hnn1 (And.intro hme hlt)))
      rw [e00] at CR
      obtain ⟨x0, x1, xf0, xf1⟩ := hmk.r.facts
      clear hmk hx how hsB hld hrb hde hnn1 hmx hme hes hnn hs hlt hBg
      go_upto_region 20 with fail
      go_upto_region 21 with (go_at_call 34; go_must (refine CR.out.mono ?_; rintro y w1 ⟨A1, c1, Ax, cx, rfl, hS1, hX1, hb1⟩; have U := HM.out.1.call hb1; obtain ⟨x0, x1, xf0, xf1⟩ := U.r.facts; have HU := Lib.hid (And.intro U (And.intro hS1 (And.intro hX1 (And.intro (HM.out.2.1.below (hb1.mono HM.out.2.2.2)) (HM.out.2.2.1.more hb1))))); clear U hb1 hS1 hX1))
      clear x0 x1 xf0 xf1
      obtain ⟨V1, hV1⟩ : ∃ W, W = (w1.setCell ⟨g + 2, 0, none⟩ (.slice A1 nn1 c1)).setCell ⟨g + 2, 1, none⟩ (.int .i64 (q1 : Int)) := ⟨_, rfl⟩
      have T := HU.out.1.setR (.slice A1 nn1 c1) (.int .i64 (q1 : Int))
      have bb : Below B w1 ((w1.setCell ⟨g + 2, 0, none⟩ (.slice A1 nn1 c1)).setCell ⟨g + 2, 1, none⟩ (.int .i64 (q1 : Int))) := ((Below.refl B w1).setCell (p := ⟨g + 2, 0, none⟩) (by have := HGB.out; simp only; omega) _).setCell (p := ⟨g + 2, 1, none⟩) (by have := HGB.out; simp only; omega) _
      have S := HU.out.2.1.below bb
      have SX := HU.out.2.2.1.below bb
      have SD := HU.out.2.2.2.1.below bb
      have O := (HU.out.2.2.2.2.setp ⟨g + 2, 0, none⟩ (by have := HGB.out; simp only; omega) (by simp only; omega) (.slice A1 nn1 c1)).setp ⟨g + 2, 1, none⟩ (by have := HGB.out; simp only; omega) (by simp only; omega) (.int .i64 (q1 : Int))
      rw [← hV1] at T S SX SD O ⊢
      have hsV : B ≤ V1.heap.size := Nat.le_trans HGB.out (Nat.le_of_lt T.z.lt)
      have HV := Lib.hid (And.intro T (And.intro S (And.intro SX (And.intro SD (And.intro O hsV)))))
      clear T S SX SD O bb hV1 hsV
      go_upto_region 22 with (go_at_call 36; go_must (refine (CD.out Ax cx V1 HV.out.2.2.2.2.2 HV.out.2.2.1).mono ?_; rintro y w2 ⟨Ae, ce, rfl, hS2, hb2⟩; have H2 := Lib.hid (And.intro hS2 hb2); clear hS2 hb2))
      obtain ⟨V2, hV2⟩ : ∃ W, W = w2.alloc (Obj.cells #[.int .i64 e.index, .int .i64 e.term, .int .i64 e.kind, .slice Ae me ce] 71) := ⟨_, rfl⟩
      obtain ⟨q, hq⟩ : ∃ q, q = w2.heap.size := ⟨_, rfl⟩
      have hb3 : Below V1.heap.size V1 V2 := by rw [hV2]; exact H2.out.2.alloc H2.out.2.size _
      have hbB : Below B V1 V2 := hb3.mono HV.out.2.2.2.2.2
      have hbw : Below w2.heap.size w2 V2 := by rw [hV2]; exact below_alloc _ _
      have E : E4 V2 q (.int .i64 e.index) (.int .i64 e.term) (.int .i64 e.kind) (.slice Ae me ce) := by rw [hV2, hq]; exact heap_alloc_new _ _
      have T := HV.out.1.call hb3
      have H3 := Lib.hid (And.intro T (And.intro (HV.out.2.1.below hbB) (And.intro (HV.out.2.2.2.1.below hbB) (And.intro (HV.out.2.2.2.2.1.more hb3) (And.intro (H2.out.1.below (hbw.mono (Nat.le_trans HV.out.2.2.2.2.2 H2.out.2.size))) (And.intro E (show g + 2 < V2.heap.size from T.r.lt)))))))
      rw [← hV2, ← hq]
      clear hV2 hq hb3 hbB hbw E T
      obtain ⟨ob, hob⟩ : ∃ ob, ob = (okb && decide (f = 0)) := ⟨_, rfl⟩
      have HL2 := Lib.hid (show LD cnt (j + 1) t1 q1 ob (es ++ [e]) sF kF okF esF by rw [hob]; exact HL.out)
      clear HL
      have three : (okb = false ∧ ob = false) ∨ (okb = true ∧ f = 0 ∧ ob = true) ∨ (okb = true ∧ ((f : Int) == 0) = false ∧ ob = false) := by
        subst hob
        cases okb
        · exact Or.inl ⟨rfl, rfl⟩
        · by_cases hf : f = 0
          · exact Or.inr (Or.inl ⟨rfl, hf, by simp [hf]⟩)
          · exact Or.inr (Or.inr ⟨rfl, by simp; exact hf, by simp [hf]⟩)
      clear hob
      obtain ⟨e0, e1, e2, e3⟩ := cells4 H3.out.2.2.2.2.2.1
      obtain ⟨y0, y1, y2, y3, y4, y5, y6, y7, y8, y9, y10, y11⟩ := cells12 H3.out.1.m
      clear y0 y1 y2 y3 y4 y5 y6 y7 y8 y9 y10
      have e00 : ((0 : Nat) : Int) = 0 := rfl
      rcases three with ⟨rfl, rfl⟩ | ⟨rfl, rfl, rfl⟩ | ⟨rfl, hf, rfl⟩
      all_goals
        try rw [e00]
        go_upto_region 23 with fail
        go_upto_region 18 with (at_builtin; go_must (refine wpList_pushE (B := g + 3) (Q := fun k => k < B) (t := 71) (l := es) (H3.out.2.2.2.1.more (below_alloc V2 _)) rfl _ _ 23 Tryz.underlying23 info_ref_ rfl rfl V2.heap.size e Ae ce rfl ?c0 ?c1 ?c2 ?c3 ?c4))
        case c0 => rw [← HK.out.2.2.1]; exact heap_alloc_new V2 _
        case c1 =>
          rw [← HK.out.2.2.1]
          have hsz := H3.out.2.2.2.2.2.2
          have hBg := HGB.out
          refine ((H3.out.2.2.2.2.1.below ((below_alloc V2 _).mono (by omega))).toT).mono fun k hk => ⟨hk, by rw [World.size_alloc]; omega, fun e' => ?_⟩
          have h1 := (H3.out.2.2.2.1.lt k e').1
          omega
        case c2 => have h1 := HK.out.1; have h2 := HK.out.2.2.2; have h3 := HCN.out; omega
        case c3 => have h1 := H3.out.2.2.2.2.2.2; rw [World.size_alloc]; omega
        case c4 =>
          intro v' w' ho' hg' _
          obtain ⟨Av2, cv2, rfl, -, -⟩ := ho'.form (j := j + 1) (by rw [List.length_append, HK.out.1]; rfl)
          have hsz := H3.out.2.2.2.2.2.2
          have hBg := HGB.out
          have hb5 : Below (g + 3) V2 w' := ((below_alloc V2 (Obj.cells #[.int .i64 e.index, .int .i64 e.term, .int .i64 e.kind, .slice Ae me ce] 71)).mono (by omega)).trans ((Below.refl (g + 3) _).grown hg' (by rw [World.size_alloc]; omega) fun k hk => (H3.out.2.2.2.1.lt k hk).1)
          have hbB : Below B V2 w' := hb5.mono (by omega)
          have T := H3.out.1.beneath hb5
          obtain ⟨y0, y1, y2, y3, y4, y5, y6, y7, y8, y9, y10, y11⟩ := cells12 T.m
          have f11 := frozen_own T.m 11
          have H4 := Lib.hid (And.intro (T.set11 (.slice Av2 (j + 1) cv2)) (And.intro ((H3.out.2.1.below hbB).below ((Below.refl B w').setCell (p := ⟨g + 1, 11, none⟩) (by simp only; omega) (.slice Av2 (j + 1) cv2))) (And.intro ((H3.out.2.2.1.below hbB).below ((Below.refl B w').setCell (p := ⟨g + 1, 11, none⟩) (by simp only; omega) (.slice Av2 (j + 1) cv2))) (ho'.setp ⟨g + 1, 11, none⟩ (by simp only; omega) (by simp only; omega) (.slice Av2 (j + 1) cv2)))))
          clear T ho' hg' hb5 hbB hsz hBg y0 y1 y2 y3 y4 y5 y6 y7 y8 y9 y10
          have hjj := HK.out.2.2.2
          have hcc := HCN.out
          go_upto_region 18 with fail
          go_wp2_with fail
          go_roundw
          case rel => exact ⟨j + 1, es ++ [e], _, t1, q1, nn1, A1, c1, _, rfl, by go_num, by rw [List.length_append, HK.out.1]; rfl, HK.out.2.1, H4.out.1, H4.out.2.1, H4.out.2.2.1, H4.out.2.2.2, HL2.out⟩
          case measure => have := HK.out.2.2.2; simp [intOf]; omega
    · have hend : j = cnt ∨ k ≠ 0 := by have := hld.le; omega
      obtain ⟨z1, z2, z3, z4⟩ := ld_end hld hend
      subst z1
      subst z2
      subst z3
      subst z4
      have hexit : ¬ ((j : Int) < (cnt : Int)) ∨ ((j : Int) < (cnt : Int) ∧ ((k : Int) == 0) = false) := by
        rcases hend with h1 | h1
        · exact Or.inl (by omega)
        · by_cases h2 : j < cnt
          · exact Or.inr ⟨by omega, by simp; exact h1⟩
          · exact Or.inl (by omega)
      obtain ⟨x0, x1, xf0, xf1⟩ := hmk.r.facts
      have hsB : B ≤ wr.heap.size := Nat.le_trans hBg (Nat.le_of_lt hmk.z.lt)
      have hin : InM ⟨(v1 : Int), (v2 : Int), (v3 : Int), (v4 : Int), (v5 : Int), (v6 : Int), (v7 : Int), (v8 : Int), v9, (v10 : Int), v11, es⟩ Ab m11 cb Av j cv wr := ⟨Bys.of_sl (hx.more hsB), ⟨how.ents, hld.fit⟩, HI0.out⟩
      obtain ⟨d, hd⟩ : ∃ d, d = doneR (s, k) := ⟨_, rfl⟩
      obtain ⟨bm, hbm⟩ : ∃ bm, bm = mayM ⟨(v1 : Int), (v2 : Int), (v3 : Int), (v4 : Int), (v5 : Int), (v6 : Int), (v7 : Int), (v8 : Int), v9, (v10 : Int), v11, es⟩ := ⟨_, rfl⟩
      have hfin := HFIN.out
      rw [← hd, ← hbm] at hfin
      have HDD := Lib.hid (RefDone_s A' nn c' k s hnn wr d hd)
      have HMay := Lib.hid (show ∀ W, Below wr.heap.size wr W → Calls Tryz.prog 15 #[.agg #[.int .i64 (v1 : Int), .int .i64 (v2 : Int), .int .i64 (v3 : Int), .int .i64 (v4 : Int), .int .i64 (v5 : Int), .int .i64 (v6 : Int), .int .i64 (v7 : Int), .int .i64 (v8 : Int), .bool v9, .int .i64 (v10 : Int), .slice Ab m11 cb, .slice Av j cv]] W fun y w' => y = .returned (.bool bm) ∧ Below W.heap.size W w' from fun W hW => May_m ⟨(v1 : Int), (v2 : Int), (v3 : Int), (v4 : Int), (v5 : Int), (v6 : Int), (v7 : Int), (v8 : Int), v9, (v10 : Int), v11, es⟩ Ab m11 cb Av j cv W (hin.below hW) bm hbm)
      have four : (((d : Int) != 0) = true ∧ m = zm ∧ kk = 3) ∨ (d = 0 ∧ okb = false ∧ m = zm ∧ kk = 3) ∨ (d = 0 ∧ okb = true ∧ bm = false ∧ m = zm ∧ kk = 3) ∨ (d = 0 ∧ okb = true ∧ bm = true ∧ m = ⟨(v1 : Int), (v2 : Int), (v3 : Int), (v4 : Int), (v5 : Int), (v6 : Int), (v7 : Int), (v8 : Int), v9, (v10 : Int), v11, es⟩ ∧ kk = 0) := by
        clear hbm hin HMay HDD hd
        by_cases h0 : d = 0
        · cases okb with
          | false => rw [if_neg (by simp)] at hfin; injection hfin with p1 p2; exact Or.inr (Or.inl ⟨h0, rfl, p1, p2⟩)
          | true =>
            cases bm with
            | false => rw [if_neg (by simp)] at hfin; injection hfin with p1 p2; exact Or.inr (Or.inr (Or.inl ⟨h0, rfl, rfl, p1, p2⟩))
            | true => rw [if_pos (by simp [h0])] at hfin; injection hfin with p1 p2; exact Or.inr (Or.inr (Or.inr ⟨h0, rfl, rfl, p1, p2⟩))
        · rw [if_neg (by simp [h0])] at hfin; injection hfin with p1 p2; exact Or.inl ⟨by simp; omega, p1, p2⟩
      have HM := Lib.hid (And.intro hmk (And.intro hs (And.intro hx (And.intro how (And.intro hnn (And.intro hes hld.fit))))))
      clear hmk hs hx how hnn hld hend hBg hgo hin hd hbm hfin hsB
      have e00 : ((0 : Nat) : Int) = 0 := rfl
      rcases hexit with h1 | ⟨h1, h2⟩
      all_goals
        go_upto_region 24 with fail
        rcases four with ⟨c0, rfl, rfl⟩ | ⟨rfl, rfl, rfl, rfl⟩ | ⟨rfl, rfl, rfl, rfl, rfl⟩ | ⟨rfl, rfl, rfl, rfl, rfl⟩
        · go_wp2_with (go_at_call 37; go_must (refine HDD.out.mono ?_; rintro y W2 ⟨rfl, hb2⟩; have T := HM.out.1.call hb2; obtain ⟨y0, y1, y2, y3, y4, y5, y6, y7, y8, y9, y10, y11⟩ := cells12 T.m; obtain ⟨z0, z1, z2, z3, z4, z5, z6, z7, z8, z9, z10, z11⟩ := cells12 T.z; have f0 := frozen_own T.z 0; have f1 := frozen_own T.z 1; have f2 := frozen_own T.z 2; have f3 := frozen_own T.z 3; have f4 := frozen_own T.z 4; have f5 := frozen_own T.z 5; have f6 := frozen_own T.z 6; have f7 := frozen_own T.z 7; have f8 := frozen_own T.z 8; have f9 := frozen_own T.z 9; have f10 := frozen_own T.z 10; have f11 := frozen_own T.z 11; have H2 := Lib.hid (And.intro T (And.intro (HM.out.2.2.1.below (hb2.mono (Nat.le_trans HGB.out (Nat.le_of_lt HM.out.1.z.lt)))) (HM.out.2.2.2.1.more hb2))); have H2B := Lib.hid hb2; clear T hb2))
          obtain ⟨F, hF, hE, hbQ, hoth, hsF⟩ := put12 H2.out.1.z (.int .i64 0) (.int .i64 0) (.int .i64 0) (.int .i64 0) (.int .i64 0) (.int .i64 0) (.int .i64 0) (.int .i64 0) (.bool false) (.int .i64 0) (.slice none 0 0) (.slice none 0 0)
          rw [← hF]
          clear hF z0 z1 z2 z3 z4 z5 z6 z7 z8 z9 z10 z11
          obtain ⟨z0, z1, z2, z3, z4, z5, z6, z7, z8, z9, z10, z11⟩ := cells12 hE
          have hnd : nd = 0 := HND.out.1
          have hne : ne = 0 := HND.out.2
          subst hnd
          subst hne
          exact bodyPost_ret (v := .tuple #[.agg #[.int .i64 0, .int .i64 0, .int .i64 0, .int .i64 0, .int .i64 0, .int .i64 0, .int .i64 0, .int .i64 0, .bool false, .int .i64 0, .slice none 0 0, .slice none 0 0], .int .i64 3]) (by simp [results, Tryz.results12, go_sem, z0, z1, z2, z3, z4, z5, z6, z7, z8, z9, z10, z11]) rfl ⟨none, 0, none, 0, rfl, ⟨SlT.nil_ _ _, ⟨[], RowT.nil_ _ _ _, fun j h => by simp [zm] at h⟩, fun e he => (by cases he), (by unfold zm inI; decide)⟩, by have := H2.out.1.bel.trans (hbQ g (Nat.le_refl _)); rw [HG.out] at this; exact this⟩
        · rw [e00] at HDD
          go_wp2_with (go_at_call 37; go_must (refine HDD.out.mono ?_; rintro y W2 ⟨rfl, hb2⟩; have T := HM.out.1.call hb2; obtain ⟨y0, y1, y2, y3, y4, y5, y6, y7, y8, y9, y10, y11⟩ := cells12 T.m; obtain ⟨z0, z1, z2, z3, z4, z5, z6, z7, z8, z9, z10, z11⟩ := cells12 T.z; have f0 := frozen_own T.z 0; have f1 := frozen_own T.z 1; have f2 := frozen_own T.z 2; have f3 := frozen_own T.z 3; have f4 := frozen_own T.z 4; have f5 := frozen_own T.z 5; have f6 := frozen_own T.z 6; have f7 := frozen_own T.z 7; have f8 := frozen_own T.z 8; have f9 := frozen_own T.z 9; have f10 := frozen_own T.z 10; have f11 := frozen_own T.z 11; have H2 := Lib.hid (And.intro T (And.intro (HM.out.2.2.1.below (hb2.mono (Nat.le_trans HGB.out (Nat.le_of_lt HM.out.1.z.lt)))) (HM.out.2.2.2.1.more hb2))); have H2B := Lib.hid hb2; clear T hb2))
          obtain ⟨F, hF, hE, hbQ, hoth, hsF⟩ := put12 H2.out.1.z (.int .i64 0) (.int .i64 0) (.int .i64 0) (.int .i64 0) (.int .i64 0) (.int .i64 0) (.int .i64 0) (.int .i64 0) (.bool false) (.int .i64 0) (.slice none 0 0) (.slice none 0 0)
          rw [← hF]
          clear hF z0 z1 z2 z3 z4 z5 z6 z7 z8 z9 z10 z11
          obtain ⟨z0, z1, z2, z3, z4, z5, z6, z7, z8, z9, z10, z11⟩ := cells12 hE
          have hnd : nd = 0 := HND.out.1
          have hne : ne = 0 := HND.out.2
          subst hnd
          subst hne
          exact bodyPost_ret (v := .tuple #[.agg #[.int .i64 0, .int .i64 0, .int .i64 0, .int .i64 0, .int .i64 0, .int .i64 0, .int .i64 0, .int .i64 0, .bool false, .int .i64 0, .slice none 0 0, .slice none 0 0], .int .i64 3]) (by simp [results, Tryz.results12, go_sem, z0, z1, z2, z3, z4, z5, z6, z7, z8, z9, z10, z11]) rfl ⟨none, 0, none, 0, rfl, ⟨SlT.nil_ _ _, ⟨[], RowT.nil_ _ _ _, fun j h => by simp [zm] at h⟩, fun e he => (by cases he), (by unfold zm inI; decide)⟩, by have := H2.out.1.bel.trans (hbQ g (Nat.le_refl _)); rw [HG.out] at this; exact this⟩
        · rw [e00] at HDD
          go_wp2_with (first | (go_at_call 37; go_must (refine HDD.out.mono ?_; rintro y W2 ⟨rfl, hb2⟩; have T := HM.out.1.call hb2; obtain ⟨y0, y1, y2, y3, y4, y5, y6, y7, y8, y9, y10, y11⟩ := cells12 T.m; obtain ⟨z0, z1, z2, z3, z4, z5, z6, z7, z8, z9, z10, z11⟩ := cells12 T.z; have f0 := frozen_own T.z 0; have f1 := frozen_own T.z 1; have f2 := frozen_own T.z 2; have f3 := frozen_own T.z 3; have f4 := frozen_own T.z 4; have f5 := frozen_own T.z 5; have f6 := frozen_own T.z 6; have f7 := frozen_own T.z 7; have f8 := frozen_own T.z 8; have f9 := frozen_own T.z 9; have f10 := frozen_own T.z 10; have f11 := frozen_own T.z 11; have H2 := Lib.hid (And.intro T (And.intro (HM.out.2.2.1.below (hb2.mono (Nat.le_trans HGB.out (Nat.le_of_lt HM.out.1.z.lt)))) (HM.out.2.2.2.1.more hb2))); have H2B := Lib.hid hb2; clear T hb2)) | (go_at_call 15; go_must (refine (HMay.out W2 H2B.out).mono ?_; rintro y w3 ⟨rfl, hb3⟩; have T := H2.out.1.call hb3; clear y0 y1 y2 y3 y4 y5 y6 y7 y8 y9 y10 y11 z0 z1 z2 z3 z4 z5 z6 z7 z8 z9 z10 z11 f0 f1 f2 f3 f4 f5 f6 f7 f8 f9 f10 f11; obtain ⟨y0, y1, y2, y3, y4, y5, y6, y7, y8, y9, y10, y11⟩ := cells12 T.m; obtain ⟨z0, z1, z2, z3, z4, z5, z6, z7, z8, z9, z10, z11⟩ := cells12 T.z; have f0 := frozen_own T.z 0; have f1 := frozen_own T.z 1; have f2 := frozen_own T.z 2; have f3 := frozen_own T.z 3; have f4 := frozen_own T.z 4; have f5 := frozen_own T.z 5; have f6 := frozen_own T.z 6; have f7 := frozen_own T.z 7; have f8 := frozen_own T.z 8; have f9 := frozen_own T.z 9; have f10 := frozen_own T.z 10; have f11 := frozen_own T.z 11; have H3 := Lib.hid (And.intro T (And.intro (H2.out.2.1.below (hb3.mono (Nat.le_trans HGB.out (Nat.le_of_lt H2.out.1.z.lt)))) (H2.out.2.2.more hb3))); clear T hb3)))
          obtain ⟨F, hF, hE, hbQ, hoth, hsF⟩ := put12 H3.out.1.z (.int .i64 0) (.int .i64 0) (.int .i64 0) (.int .i64 0) (.int .i64 0) (.int .i64 0) (.int .i64 0) (.int .i64 0) (.bool false) (.int .i64 0) (.slice none 0 0) (.slice none 0 0)
          rw [← hF]
          clear hF z0 z1 z2 z3 z4 z5 z6 z7 z8 z9 z10 z11
          obtain ⟨z0, z1, z2, z3, z4, z5, z6, z7, z8, z9, z10, z11⟩ := cells12 hE
          have hnd : nd = 0 := HND.out.1
          have hne : ne = 0 := HND.out.2
          subst hnd
          subst hne
          exact bodyPost_ret (v := .tuple #[.agg #[.int .i64 0, .int .i64 0, .int .i64 0, .int .i64 0, .int .i64 0, .int .i64 0, .int .i64 0, .int .i64 0, .bool false, .int .i64 0, .slice none 0 0, .slice none 0 0], .int .i64 3]) (by simp [results, Tryz.results12, go_sem, z0, z1, z2, z3, z4, z5, z6, z7, z8, z9, z10, z11]) rfl ⟨none, 0, none, 0, rfl, ⟨SlT.nil_ _ _, ⟨[], RowT.nil_ _ _ _, fun j h => by simp [zm] at h⟩, fun e he => (by cases he), (by unfold zm inI; decide)⟩, by have := H3.out.1.bel.trans (hbQ g (Nat.le_refl _)); rw [HG.out] at this; exact this⟩
        · rw [e00] at HDD
          go_wp2_with (first | (go_at_call 37; go_must (refine HDD.out.mono ?_; rintro y W2 ⟨rfl, hb2⟩; have T := HM.out.1.call hb2; obtain ⟨y0, y1, y2, y3, y4, y5, y6, y7, y8, y9, y10, y11⟩ := cells12 T.m; obtain ⟨z0, z1, z2, z3, z4, z5, z6, z7, z8, z9, z10, z11⟩ := cells12 T.z; have f0 := frozen_own T.z 0; have f1 := frozen_own T.z 1; have f2 := frozen_own T.z 2; have f3 := frozen_own T.z 3; have f4 := frozen_own T.z 4; have f5 := frozen_own T.z 5; have f6 := frozen_own T.z 6; have f7 := frozen_own T.z 7; have f8 := frozen_own T.z 8; have f9 := frozen_own T.z 9; have f10 := frozen_own T.z 10; have f11 := frozen_own T.z 11; have H2 := Lib.hid (And.intro T (And.intro (HM.out.2.2.1.below (hb2.mono (Nat.le_trans HGB.out (Nat.le_of_lt HM.out.1.z.lt)))) (HM.out.2.2.2.1.more hb2))); have H2B := Lib.hid hb2; clear T hb2)) | (go_at_call 15; go_must (refine (HMay.out W2 H2B.out).mono ?_; rintro y w3 ⟨rfl, hb3⟩; have T := H2.out.1.call hb3; clear y0 y1 y2 y3 y4 y5 y6 y7 y8 y9 y10 y11 z0 z1 z2 z3 z4 z5 z6 z7 z8 z9 z10 z11 f0 f1 f2 f3 f4 f5 f6 f7 f8 f9 f10 f11; obtain ⟨y0, y1, y2, y3, y4, y5, y6, y7, y8, y9, y10, y11⟩ := cells12 T.m; obtain ⟨z0, z1, z2, z3, z4, z5, z6, z7, z8, z9, z10, z11⟩ := cells12 T.z; have f0 := frozen_own T.z 0; have f1 := frozen_own T.z 1; have f2 := frozen_own T.z 2; have f3 := frozen_own T.z 3; have f4 := frozen_own T.z 4; have f5 := frozen_own T.z 5; have f6 := frozen_own T.z 6; have f7 := frozen_own T.z 7; have f8 := frozen_own T.z 8; have f9 := frozen_own T.z 9; have f10 := frozen_own T.z 10; have f11 := frozen_own T.z 11; have H3 := Lib.hid (And.intro T (And.intro (H2.out.2.1.below (hb3.mono (Nat.le_trans HGB.out (Nat.le_of_lt H2.out.1.z.lt)))) (H2.out.2.2.more hb3))); clear T hb3)))
          obtain ⟨F, hF, hE, hbQ, hoth, hsF⟩ := put12 H3.out.1.z (.int .i64 (v1 : Int)) (.int .i64 (v2 : Int)) (.int .i64 (v3 : Int)) (.int .i64 (v4 : Int)) (.int .i64 (v5 : Int)) (.int .i64 (v6 : Int)) (.int .i64 (v7 : Int)) (.int .i64 (v8 : Int)) (.bool v9) (.int .i64 (v10 : Int)) (.slice Ab m11 cb) (.slice Av j cv)
          rw [← hF]
          clear hF z0 z1 z2 z3 z4 z5 z6 z7 z8 z9 z10 z11
          obtain ⟨z0, z1, z2, z3, z4, z5, z6, z7, z8, z9, z10, z11⟩ := cells12 hE
          have hnd := HND.out.1
          have hne := HND.out.2
          have hO := (H3.out.2).2
          have hin : InT ⟨(v1 : Int), (v2 : Int), (v3 : Int), (v4 : Int), (v5 : Int), (v6 : Int), (v7 : Int), (v8 : Int), v9, (v10 : Int), v11, es⟩ Ab m11 cb Av j cv (fun q => (q < B ∨ w.heap.size < q) ∧ q < F.heap.size) F := ⟨SlT.mono (((H3.out.2).1.below (hbQ B HGB.out)).toT) fun q hq => ⟨Or.inl hq, by have h1 : q < B := hq; have h2 := HGB.out; have h3 := H3.out.1.z.lt; omega⟩, (hO.put HGB.out hoth hsF).entsT _ (fun q hq hs => ⟨Or.inl hq, hs⟩) (fun q hq hs => ⟨Or.inr (by have := HG.out; omega), hs⟩), HM.out.2.2.2.2.2.2, HI0.out⟩
          have hnd' : m11 = nd := HM11.out.trans hnd.symm
          have hne' : j = ne := HM.out.2.2.2.2.2.1.symm.trans hne.symm
          subst hnd'
          subst hne'
          exact bodyPost_ret (v := .tuple #[.agg #[.int .i64 (v1 : Int), .int .i64 (v2 : Int), .int .i64 (v3 : Int), .int .i64 (v4 : Int), .int .i64 (v5 : Int), .int .i64 (v6 : Int), .int .i64 (v7 : Int), .int .i64 (v8 : Int), .bool v9, .int .i64 (v10 : Int), .slice Ab m11 cb, .slice Av j cv], .int .i64 0]) (by simp [results, Tryz.results12, go_sem, z0, z1, z2, z3, z4, z5, z6, z7, z8, z9, z10, z11]) rfl ⟨Ab, cb, Av, cv, rfl, hin, by have := H3.out.1.bel.trans (hbQ g (Nat.le_refl _)); rw [HG.out] at this; exact this⟩


end Go.Proofs.YtfblgkcipnkhaaaGreatDoor.pk

/-
  The document's own reader of a message; what Open is.
-/
namespace Go.Proofs.YtfblgkcipnkhaaaGreatDoor.pk
open Go Go.RowKit
set_option maxRecDepth 100000

theorem rCount_le {most : Nat} {s s' : List UInt8 × Nat} {v : Nat} (h : rCount most s = (s', v)) : v ≤ most := by
  unfold rCount at h
  by_cases h0 : s.2 = 0
  · rw [if_pos h0] at h
    by_cases h1 : (rdUint most s.1).1 ≠ 0
    · rw [if_pos h1] at h
      injection h with a b
      omega
    · rw [if_neg h1] at h
      have h2 : (rdUint most s.1).1 = 0 := by omega
      have h3 := (rdUint_inv (most := most) (l := s.1) (n := (rdUint most s.1).2.1) (r := (rdUint most s.1).2.2) (Prod.ext h2 rfl)).2.1
      split at h
      · injection h with a b
        omega
      · injection h with a b
        omega
  · rw [if_neg h0] at h
    injection h with a b
    omega
theorem in_small {v : Nat} (h : v ≤ 1099511627776) : inI (v : Int) := by unfold inI; omega

set_option maxHeartbeats 4000000 in
theorem RefDecM_s (A : Option Addr) (n c : Nat) (b : List UInt8) (w : World) (B : Nat) (hB : B ≤ w.heap.size) (h : Sl w B (.slice A n c) b) (m : Ms) (k : Nat) (hr : (m, k) = decM b) (nd ne : Nat) (hnd : nd = m.data.length) (hne : ne = m.ents.length) :
    Calls Tryz.prog 12 #[.slice A n c] w fun y w' => ∃ Ad cd Ae ce, y = .returned (.tuple #[.agg #[.int .i64 m.kind, .int .i64 m.frm, .int .i64 m.to, .int .i64 m.term, .int .i64 m.index, .int .i64 m.logTerm, .int .i64 m.commit, .int .i64 m.round, .bool m.ok, .int .i64 m.off, .slice Ad nd cd, .slice Ae ne ce], .int .i64 (k : Int)]) ∧ InT m Ad nd cd Ae ne ce (fun q => (q < B ∨ w.heap.size < q) ∧ q < w'.heap.size) w' ∧ Below w.heap.size w w' := by
  rcases h1 : rUint 1099511627776 (b, 0) with ⟨⟨s1, k1⟩, v1⟩
  rcases h2 : rUint 1099511627776 (s1, k1) with ⟨⟨s2, k2⟩, v2⟩
  rcases h3 : rUint 1099511627776 (s2, k2) with ⟨⟨s3, k3⟩, v3⟩
  rcases h4 : rUint 1099511627776 (s3, k3) with ⟨⟨s4, k4⟩, v4⟩
  rcases h5 : rUint 1099511627776 (s4, k4) with ⟨⟨s5, k5⟩, v5⟩
  rcases h6 : rUint 1099511627776 (s5, k5) with ⟨⟨s6, k6⟩, v6⟩
  rcases h7 : rUint 1099511627776 (s6, k6) with ⟨⟨s7, k7⟩, v7⟩
  rcases h8 : rUint 1099511627776 (s7, k7) with ⟨⟨s8, k8⟩, v8⟩
  rcases h9 : rBool (s8, k8) with ⟨⟨s9, k9⟩, v9⟩
  rcases h10 : rUint 1099511627776 (s9, k9) with ⟨⟨s10, k10⟩, v10⟩
  rcases h11 : rBytes 98 4096 (s10, k10) with ⟨⟨s11, k11⟩, v11⟩
  rcases h12 : rCount 64 (s11, k11) with ⟨⟨s12, k12⟩, cnt⟩
  rcases ht : takeEs cnt (s12, k12) with ⟨⟨⟨sF, kF⟩, okF⟩, esF⟩
  have l1 : v1 ≤ 1099511627776 := by have := rUint_le 1099511627776 (b, 0); rw [h1] at this; exact this
  have l2 : v2 ≤ 1099511627776 := by have := rUint_le 1099511627776 (s1, k1); rw [h2] at this; exact this
  have l3 : v3 ≤ 1099511627776 := by have := rUint_le 1099511627776 (s2, k2); rw [h3] at this; exact this
  have l4 : v4 ≤ 1099511627776 := by have := rUint_le 1099511627776 (s3, k3); rw [h4] at this; exact this
  have l5 : v5 ≤ 1099511627776 := by have := rUint_le 1099511627776 (s4, k4); rw [h5] at this; exact this
  have l6 : v6 ≤ 1099511627776 := by have := rUint_le 1099511627776 (s5, k5); rw [h6] at this; exact this
  have l7 : v7 ≤ 1099511627776 := by have := rUint_le 1099511627776 (s6, k6); rw [h7] at this; exact this
  have l8 : v8 ≤ 1099511627776 := by have := rUint_le 1099511627776 (s7, k7); rw [h8] at this; exact this
  have l10 : v10 ≤ 1099511627776 := by have := rUint_le 1099511627776 (s9, k9); rw [h10] at this; exact this
  have hall : allR b = (((sF, kF), okF), ⟨(v1 : Int), (v2 : Int), (v3 : Int), (v4 : Int), (v5 : Int), (v6 : Int), (v7 : Int), (v8 : Int), v9, (v10 : Int), v11, esF⟩) := by
    unfold allR headR
    simp only [h1, h2, h3, h4, h5, h6, h7, h8, h9, h10, h11, h12, ht]
  have hfin : (m, k) = if (decide (doneR (sF, kF) = 0) && okF && mayM ⟨(v1 : Int), (v2 : Int), (v3 : Int), (v4 : Int), (v5 : Int), (v6 : Int), (v7 : Int), (v8 : Int), v9, (v10 : Int), v11, esF⟩) = true then (⟨(v1 : Int), (v2 : Int), (v3 : Int), (v4 : Int), (v5 : Int), (v6 : Int), (v7 : Int), (v8 : Int), v9, (v10 : Int), v11, esF⟩, 0) else (zm, 3) := by
    rw [hr]
    unfold decM okR
    rw [hall]
  exact Dec_walk A n c b w B hB h s1 k1 v1 s1.length h1 rfl s2 k2 v2 s2.length h2 rfl s3 k3 v3 s3.length h3 rfl s4 k4 v4 s4.length h4 rfl s5 k5 v5 s5.length h5 rfl s6 k6 v6 s6.length h6 rfl s7 k7 v7 s7.length h7 rfl s8 k8 v8 s8.length h8 rfl s9 k9 v9 s9.length h9 rfl s10 k10 v10 s10.length h10 rfl s11 k11 v11 s11.length h11 rfl v11.length rfl s12 k12 cnt s12.length h12 rfl sF kF okF esF ht (rCount_le h12) ⟨in_small l1, in_small l2, in_small l3, in_small l4, in_small l5, in_small l6, in_small l7, in_small l8, in_small l10⟩ m k hfin nd ne hnd hne

end Go.Proofs.YtfblgkcipnkhaaaGreatDoor.pk
