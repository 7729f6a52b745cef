/-
  What stands behind a record's mark: walked.
-/
import Derived.Test.YthcikgbnenfjpaaDoorTapB
import Derived.Test.YthcikgbnenfjpaaDoorAppR
import Derived.OwnWalk
namespace Go.Proofs.YthcikgbnenfjpaaDoor.pk
open Go Go.RowKit
set_option maxRecDepth 100000

theorem bytes_of (n : Nat) (hn : n ≤ 1048576) : (n : Int) / 16777216 = ((UInt8.ofNat (n / 16777216)).toNat : Int) ∧ (n : Int) / 65536 = ((UInt8.ofNat (n / 65536)).toNat : Int) ∧ (n : Int) / 256 % 256 = ((UInt8.ofNat (n / 256)).toNat : Int) ∧ (n : Int) % 256 = ((UInt8.ofNat n).toNat : Int) := by
  simp only [UInt8.toNat_ofNat']
  omega

theorem lit4 (w : World) (n : Nat) (hn : n ≤ 1048576) : Sl (w.alloc (.cells #[.int .u8 ((n : Int) / 16777216), .int .u8 ((n : Int) / 65536), .int .u8 ((n : Int) / 256 % 256), .int .u8 ((n : Int) % 256)] 5)) (w.heap.size + 1) (.slice (some ⟨w.heap.size, 0, none⟩) 4 4) (be4 n) := by
  obtain ⟨e1, e2, e3, e4⟩ := bytes_of n hn
  rw [e1, e2, e3, e4]
  exact Sl.lit w 5 (be4 n) _ (by omega) (by simp [be4])
theorem lit1 (w : World) (k : Nat) (hk : k < 256) : Sl (w.alloc (.cells #[.int .u8 (k : Int)] 5)) (w.heap.size + 1) (.slice (some ⟨w.heap.size, 0, none⟩) 1 1) [UInt8.ofNat k] := by
  have e : (k : Int) = ((UInt8.ofNat k).toNat : Int) := by rw [UInt8.toNat_ofNat']; omega
  rw [e]
  exact Sl.lit w 5 [UInt8.ofNat k] _ (by omega) (by simp)

theorem byteCells_app (a b : List UInt8) : Lib.byteCells a ++ Lib.byteCells b = Lib.byteCells (a ++ b) := by simp [Lib.byteCells]

set_option maxHeartbeats 1000000 in
theorem body_any (T : Nat → Prop) (A : Option Addr) (c n : Nat) (b : List UInt8) (z : Bool) (w : World) (h : SlT w T (.slice A n c) b) (hn : b.length ≤ 1048576) :
    Calls Tryd.prog 34 #[.slice A n c, .bool z] w fun y w' => ∃ v, y = .returned v ∧ SlT w' (fun k => w.heap.size ≤ k ∧ k < w'.heap.size) v (be4 b.length ++ (b ++ if z = true then [0] else [])) ∧ Below w.heap.size w w' := by
  obtain ⟨i0, hi, hz0, hz1, hz2⟩ := info_parts info_u8
  obtain ⟨hbn, -, -⟩ := h.sl.len
  have hnn : (n : Int) ≤ 1048576 := by omega
  have hnN : n ≤ 1048576 := by omega
  have H := Lib.hid h
  have HN := Lib.hid hbn
  have hbe : (be4 n).length = 4 := rfl
  have HBE := Lib.hid hbe
  clear h hbn hbe
  have hfin : ∀ (v : Value) (W : World) (ys : List UInt8) (k : Nat), W.ownsRow w.heap.size 5 1 v k (Lib.byteCells ys) → k = ys.length → SlT W (fun k => w.heap.size ≤ k ∧ k < W.heap.size) v ys := fun v W ys k ho e => by
    subst e
    exact SlT.of_own ho _ (fun g hg => ho.lt g hg)
  have FIN := Lib.hid hfin
  clear hfin
  go_enter Tryd.func34, Tryd.ntmps34
  go_upto_region 3 with (first
    | (at_make; go_must (refine wpList_make_own _ rfl _ _ 22 rfl w.heap.size 5 i0 _ 1 Tryd.underlying22 hi hz0 hz1 .i64 .i64 _ (n + 5) rfl rfl (by omega) (by rw [hz2]; omega) (by unfold maxLen; omega) (Nat.le_refl _) ?_; intro w1 ho1 hg1; have O1 := Lib.hid ho1; have B1 := Lib.hid ((Below.refl w.heap.size w).grown hg1 (Nat.le_refl _) (fun k hk => by cases hk)); clear ho1 hg1))
    | (at_builtin; go_must (refine wpList_append_sl rfl (.tmp 11) (.tmp 23) 22 rfl w.heap.size 5 i0 _ Tryd.underlying22 hi hz0 hz1 hz2 rfl _ 0 [] rfl (O1.out.alloc _) (w1.heap.size + 1) _ 4 4 (be4 n) rfl (lit4 w1 n hnN) (by have := HBE.out; omega) (by rw [World.size_alloc]; have := B1.out.size; omega) ?_; intro v2 w2 ho2 hg2; rw [Nat.zero_add, List.nil_append, HBE.out] at ho2; have O2 := Lib.hid ho2; have B2 := Lib.hid ((B1.out.alloc B1.out.size _).grown hg2 (by rw [World.size_alloc]; have := B1.out.size; omega) (fun k hk => (O1.out.lt k hk).1)); clear ho2 hg2)))
  go_upto_region 4 with (at_builtin; go_must (refine wpList_append_sl rfl (.tmp 25) (.tmp 26) 22 rfl w.heap.size 5 i0 _ Tryd.underlying22 hi hz0 hz1 hz2 rfl _ 4 (Lib.byteCells (be4 n)) rfl O2.out w.heap.size A n c b rfl (H.out.sl.below B2.out) (by have := HN.out; omega) B2.out.size ?_; intro v3 w3 ho3 hg3; have O3 := Lib.hid ho3; have B3 := Lib.hid (B2.out.grown hg3 B2.out.size (fun k hk => (O2.out.lt k hk).1)); clear ho3 hg3))
  have o3 := O3.out
  rw [byteCells_app] at o3
  have O4 := Lib.hid o3
  clear o3 O3
  cases z with
  | false =>
    go_wp2_with fail
    go_ret
    refine ⟨_, rfl, ?_, B3.out⟩
    have := FIN.out _ _ _ _ O4.out (by rw [List.length_append, HBE.out])
    rw [← HN.out]
    simpa using this
  | true =>
    go_wp2_with (at_builtin; refine wpList_append_sl rfl (.tmp 29) (.tmp 30) 22 rfl w.heap.size 5 i0 _ Tryd.underlying22 hi hz0 hz1 hz2 rfl _ (4 + b.length) _ rfl (O4.out.alloc _) (w3.heap.size + 1) _ 1 1 [0] rfl (lit1 w3 0 (by omega)) (by have := HN.out; show 4 + b.length + 1 ≤ _; omega) (by rw [World.size_alloc]; have := B3.out.size; omega) ?_; intro v5 w5 ho5 hg5; have O5 := Lib.hid ho5; have B5 := Lib.hid ((B3.out.alloc B3.out.size _).grown hg5 (by rw [World.size_alloc]; have := B3.out.size; omega) (fun k hk => (O4.out.lt k hk).1)); clear ho5 hg5)
    go_ret
    refine ⟨_, rfl, ?_, B5.out⟩
    have o5 := O5.out
    rw [byteCells_app] at o5
    have := FIN.out _ _ _ _ o5 (by simp [HBE.out]; omega)
    rw [← HN.out]
    simpa using this

end Go.Proofs.YthcikgbnenfjpaaDoor.pk
