/-
  The document's own Room and Append: walked.
-/
import Derived.Test.YthcikgbnenfjpaaDoorRefRec
import Derived.Test.YthcikgbnenfjpaaDoorTapC
import Derived.Test.YthcikgbnenfjpaaDoorMineA
namespace Go.Proofs.YthcikgbnenfjpaaDoor.pk
open Go Go.RowKit
set_option maxRecDepth 100000

theorem RoomR_any (s a : Int) (w : World) (h1 : 0 ≤ s) (h2 : s ≤ 4194304) (h3 : 0 ≤ a) (h4 : a ≤ 4194304) :
    Calls Tryd.prog 17 #[.int .i64 s, .int .i64 a] w fun x w' => x = .returned (.int .i64 (roomZ (s - a))) ∧ w = w' := by
  by_cases h : s - a < 5
  · rw [show roomZ (s - a) = -1 from if_pos h]
    go_enter Tryd.func17, Tryd.ntmps17
    go_wp2
    go_ret
    exact ⟨rfl, rfl⟩
  · rw [show roomZ (s - a) = s - a - 5 from if_neg h]
    go_enter Tryd.func17, Tryd.ntmps17
    go_wp2
    go_ret
    exact ⟨rfl, rfl⟩

theorem AppendR_full (Ab : Option Addr) (m cb : Nat) (a : Nat) (Ax : Option Addr) (n cx : Nat) (w : World) (hm : m ≤ 4194304) (ha : a ≤ 4194304) (hn : n ≤ 1048576) (hr : roomZ ((m : Int) - a) < (n : Int)) :
    Calls Tryd.prog 20 #[.slice Ab m cb, .int .i64 (a : Int), .slice Ax n cx] w fun y w' => y = .returned (.tuple #[.slice Ab m cb, .int .i64 10]) ∧ w = w' := by
  have c1 := RoomR_any (m : Int) (a : Int) w (by omega) (by omega) (by omega) (by omega)
  obtain ⟨r, hrr⟩ : ∃ r, r = roomZ ((m : Int) - (a : Int)) := ⟨_, rfl⟩
  rw [← hrr] at c1 hr
  have C1 := Lib.hid c1
  have hn' : (n : Int) ≤ 1048576 := by omega
  clear c1 hrr
  go_enter Tryd.func20, Tryd.ntmps20
  go_wp2_with (go_at_call 17; go_must (refine C1.out.mono ?_; rintro y w1 ⟨rfl, rfl⟩))
  go_ret2
  exact ⟨rfl, rfl⟩

/-- An area's bytes with a record more. -/
def appA (A : List UInt8) (a : Nat) (x : List UInt8) : List UInt8 :=
  A.take a ++ ([1] ++ be4 x.length) ++ x ++ (if a + 5 + x.length + 5 ≤ A.length then [0] else []) ++ A.drop (a + 5 + x.length + if a + 5 + x.length + 5 ≤ A.length then 1 else 0)
theorem lit5 (w : World) (n : Nat) (hn : n ≤ 1048576) : Sl (w.alloc (.cells #[.int .u8 1, .int .u8 ((n : Int) / 16777216), .int .u8 ((n : Int) / 65536), .int .u8 ((n : Int) / 256 % 256), .int .u8 ((n : Int) % 256)] 5)) (w.heap.size + 1) (.slice (some ⟨w.heap.size, 0, none⟩) 5 5) ([1] ++ be4 n) := by
  obtain ⟨e1, e2, e3, e4⟩ := bytes_of n hn
  rw [e1, e2, e3, e4]
  exact Sl.lit w 5 (1 :: be4 n) (w.heap.size + 1) (by omega) (by simp [be4])

set_option maxHeartbeats 4000000 in
theorem AppendR_any (Ab : Option Addr) (m cb : Nat) (A : List UInt8) (a : Nat) (Ax : Option Addr) (n cx : Nat) (x : List UInt8) (w : World) (hb : Sl w w.heap.size (.slice Ab m cb) A) (hx : Sl w w.heap.size (.slice Ax n cx) x)
    (hm : m ≤ 4194304) (hn : n ≤ 1048576) (hr : a + 5 + n ≤ m) :
    Calls Tryd.prog 20 #[.slice Ab m cb, .int .i64 (a : Int), .slice Ax n cx] w fun y w' => ∃ v, y = .returned (.tuple #[v, .int .i64 0]) ∧ w'.ownsRow w.heap.size 5 1 v m (Lib.byteCells (appA A a x)) ∧ Below w.heap.size w w' := by
  obtain ⟨i0, hi, hz0, hz1, hz2⟩ := info_parts info_u8
  obtain ⟨hmA, hmc, hcm⟩ := hb.len
  obtain ⟨hnx, -, -⟩ := hx.len
  have c1 := RoomR_any (m : Int) (a : Int) w (by omega) (by omega) (by omega) (by omega)
  rw [show roomZ ((m : Int) - (a : Int)) = (m : Int) - (a : Int) - 5 from if_neg (by omega)] at c1
  have C1 := Lib.hid c1
  have i1 : (n : Int) ≤ 1048576 := by omega
  have i2 : (m : Int) ≤ 4194304 := by omega
  have i3 : (a : Int) + 5 + (n : Int) ≤ (m : Int) := by omega
  have i4 : ¬ (m : Int) - (a : Int) - 5 < (n : Int) := by omega
  have i5 : (a : Int) ≤ (cb : Int) := by omega
  have i6 : a ≤ cb := by omega
  have i7 : (m : Int) ≤ (cb : Int) := by omega
  have HB := Lib.hid (And.intro hb (And.intro hmA (And.intro hmc hcm)))
  have HX := Lib.hid (And.intro hx hnx)
  have hbe : ([1] ++ be4 n).length = 5 := rfl
  have HBE := Lib.hid hbe
  have hta : (A.take a).length = a := by rw [List.length_take]; omega
  have HTA := Lib.hid hta
  have hnN := hn
  clear c1 hb hx hmA hnx hbe hta hmc hcm
  go_enter Tryd.func20, Tryd.ntmps20
  go_upto_region 7 with (first
    | (go_at_call 17; go_must (refine C1.out.mono ?_; rintro y w1 ⟨rfl, rfl⟩))
    | (at_builtin; go_must (refine wpList_append_sl rfl (.tmp 21) (.tmp 24) 22 rfl w.heap.size 5 i0 _ Tryd.underlying22 hi hz0 hz1 hz2 rfl _ 0 [] rfl (World.ownsRow_nil _ _ _ _) w.heap.size Ab a cb (A.take a) rfl (HB.out.1.front (by have := HB.out.2.1; omega)) (by rw [HTA.out]; omega) (Nat.le_refl _) ?_; intro v1 w1 ho1 hg1; rw [Nat.zero_add, List.nil_append, HTA.out] at ho1; have O1 := Lib.hid (And.intro ho1 ((Below.refl w.heap.size w).grown hg1 (Nat.le_refl _) (fun k hk => by cases hk))); clear ho1 hg1)))
  go_upto_region 8 with (at_builtin; go_must (refine wpList_append_sl rfl (.tmp 26) (.tmp 42) 22 rfl w.heap.size 5 i0 _ Tryd.underlying22 hi hz0 hz1 hz2 rfl _ a _ rfl (O1.out.1.alloc _) (w1.heap.size + 1) _ 5 5 ([1] ++ be4 n) rfl (lit5 w1 n hnN) (by have := HBE.out; omega) (by rw [World.size_alloc]; have := O1.out.2.size; omega) ?_; intro v2 w2 ho2 hg2; rw [HBE.out, byteCells_app] at ho2; have O2 := Lib.hid (And.intro ho2 ((O1.out.2.alloc O1.out.2.size _).grown hg2 (by rw [World.size_alloc]; have := O1.out.2.size; omega) (fun k hk => (O1.out.1.lt k hk).1))); clear ho2 hg2))
  go_upto_region 9 with (at_builtin; go_must (refine wpList_append_sl rfl (.tmp 44) (.tmp 45) 22 rfl w.heap.size 5 i0 _ Tryd.underlying22 hi hz0 hz1 hz2 rfl _ (a + 5) _ rfl O2.out.1 w.heap.size Ax n cx x rfl (HX.out.1.below O2.out.2) (by have := HX.out.2; omega) O2.out.2.size ?_; intro v3 w3 ho3 hg3; rw [← HX.out.2, byteCells_app] at ho3; have O3 := Lib.hid (And.intro ho3 (O2.out.2.grown hg3 O2.out.2.size (fun k hk => (O2.out.1.lt k hk).1))); obtain ⟨A3, c3, rfl, -, -⟩ := own_form O3.out.1; clear ho3 hg3))
  obtain ⟨b, off, rfl, -⟩ := sl_at (T := fun k => k < w.heap.size) HB.out.1.toT HB.out.2.1.symm (by omega)
  have HE := Lib.hid (show appA A a x = A.take a ++ ([1] ++ be4 n) ++ x ++ (if a + 5 + n + 5 ≤ m then [0] else []) ++ A.drop (a + 5 + n + if a + 5 + n + 5 ≤ m then 1 else 0) by unfold appA; rw [← HX.out.2, ← HB.out.2.1])
  by_cases h5 : a + 5 + n + 5 ≤ m
  · have i8 : 5 ≤ (m : Int) - ((a : Int) + 5 + (n : Int)) := by omega
    have i9 : (a : Int) + 5 + (n : Int) + 1 ≤ (m : Int) := by omega
    have hca : ¬ cb = a + 5 + n + 1 := by have := HB.out.2.2.1; omega
    have HC := Lib.hid (fun (W : World) (hW : Below w.heap.size w W) => (HB.out.1.below hW).cut (k := a + 5 + n + 1) (by have := HB.out.2.1; omega))
    go_upto_region 11 with (at_builtin; go_must (refine wpList_append_sl rfl (.tmp 53) (.tmp 54) 22 rfl w.heap.size 5 i0 _ Tryd.underlying22 hi hz0 hz1 hz2 rfl _ (a + 5 + n) _ rfl (O3.out.1.alloc _) (w3.heap.size + 1) _ 1 1 [0] rfl (lit1 w3 0 (by omega)) (by show a + 5 + n + 1 ≤ _; omega) (by rw [World.size_alloc]; have := O3.out.2.size; omega) ?_; intro v4 w4 ho4 hg4; rw [show [(0 : UInt8)].length = 1 from rfl, byteCells_app] at ho4; have O4 := Lib.hid (And.intro ho4 ((O3.out.2.alloc O3.out.2.size _).grown hg4 (by rw [World.size_alloc]; have := O3.out.2.size; omega) (fun k hk => (O3.out.1.lt k hk).1))); obtain ⟨A4, c4, rfl, -, -⟩ := own_form O4.out.1; clear ho4 hg4))
    have hc4 := HC.out w4 O4.out.2
    rw [if_neg hca] at hc4
    have HC4 := Lib.hid hc4
    have hdl : (A.drop (a + 5 + n + 1)).length = m - (a + 5 + n + 1) := by rw [List.length_drop, ← HB.out.2.1]
    have HDL := Lib.hid hdl
    clear hc4 hdl
    go_wp2_with (at_builtin; go_must (refine wpList_append_sl rfl (.tmp 56) (.tmp 60) 22 rfl w.heap.size 5 i0 _ Tryd.underlying22 hi hz0 hz1 hz2 rfl _ (a + 5 + n + 1) _ rfl O4.out.1 w.heap.size _ _ _ (A.drop (a + 5 + n + 1)) rfl HC4.out (by rw [HDL.out]; omega) O4.out.2.size ?_; intro v5 w5 ho5 hg5; rw [HDL.out, byteCells_app] at ho5; have O5 := Lib.hid (And.intro ho5 (O4.out.2.grown hg5 O4.out.2.size (fun k hk => (O4.out.1.lt k hk).1))); obtain ⟨A5, c5, rfl, -, -⟩ := own_form O5.out.1; clear ho5 hg5))
    go_ret2
    refine ⟨_, rfl, ?_, O5.out.2⟩
    have := O5.out.1
    rw [HE.out, if_pos h5, if_pos h5]
    rw [show a + 5 + n + 1 + (m - (a + 5 + n + 1)) = m by omega] at this ⊢
    exact this
  · have i8 : ¬ 5 ≤ (m : Int) - ((a : Int) + 5 + (n : Int)) := by omega
    have HC := Lib.hid (fun (W : World) (hW : Below w.heap.size w W) => (HB.out.1.below hW).cut (k := a + 5 + n) (by have := HB.out.2.1; omega))
    have hdl : (A.drop (a + 5 + n)).length = m - (a + 5 + n) := by rw [List.length_drop, ← HB.out.2.1]
    have HDL := Lib.hid hdl
    clear hdl
    by_cases hca : cb = a + 5 + n
    case' pos => subst hca
    all_goals
      have hc4 := HC.out w3 O3.out.2
      first
        | rw [if_pos rfl] at hc4
        | rw [if_neg hca] at hc4
      have HC4 := Lib.hid hc4
      clear hc4
      go_wp2_with (at_builtin; go_must (refine wpList_append_sl rfl (.tmp 56) (.tmp 60) 22 rfl w.heap.size 5 i0 _ Tryd.underlying22 hi hz0 hz1 hz2 rfl _ (a + 5 + n) _ rfl O3.out.1 w.heap.size _ _ _ (A.drop (a + 5 + n)) rfl ?_ ?_ ?_ ?_))
      · first
          | (have h1 := HC4.out; simp only [Option.map_some, Lib.add_plain] at h1; exact h1)
          | exact HC4.out
          | (have h1 := HC4.out; rw [Nat.sub_self] at h1; exact h1)
      · rw [← HB.out.2.1]; omega
      · exact O3.out.2.size
      · intro v5 w5 ho5 hg5
        rw [← HB.out.2.1, byteCells_app] at ho5
        have O5 := Lib.hid (And.intro ho5 (O3.out.2.grown hg5 O3.out.2.size (fun k hk => (O3.out.1.lt k hk).1)))
        obtain ⟨A5, c5, rfl, -, -⟩ := own_form O5.out.1
        clear ho5 hg5
        go_wp2_with fail
        go_ret2
        refine ⟨_, rfl, ?_, O5.out.2⟩
        have := O5.out.1
        rw [HE.out, if_neg h5, if_neg h5, List.append_nil, Nat.add_zero]
        rw [show a + 5 + n + (m - (a + 5 + n)) = m by omega] at this ⊢
        simpa using this

end Go.Proofs.YthcikgbnenfjpaaDoor.pk
