/-
  The document's disk: the power back.
-/
import Derived.Test.YtlhagbcomnjnoaaDoorRefSync
namespace Go.Proofs.YtlhagbcomnjnoaaDoor.pk
open Go Go.RowKit
set_option maxRecDepth 100000

theorem ret_int {k : IntKind} {a b : Int} (h : a = b) : Ending.returned (.int k a) = .returned (.int k b) := by rw [h]
theorem tmod_rest (z : Int) (b : Nat) (hb : 0 < b) : (z.tmod (b : Int) < 0 → z % (b : Int) = z.tmod (b : Int) + b) ∧ (¬ z.tmod (b : Int) < 0 → z % (b : Int) = z.tmod (b : Int)) ∧ -(b : Int) < z.tmod (b : Int) ∧ z.tmod (b : Int) < (b : Int) := by
  have h1 := Int.tmod_lt_of_pos z (show (0 : Int) < b by omega)
  have h2 := Int.mul_tdiv_add_tmod z (b : Int)
  have h3 := Int.lt_tmod_of_pos z (show (0 : Int) < b by omega)
  have h4 : z % (b : Int) = z.tmod (b : Int) % (b : Int) := by
    rw (occs := .pos [1]) [← h2]
    rw [Int.add_comm, Int.add_mul_emod_self_left]
  refine ⟨fun hn => ?_, fun hn => ?_, h3, h1⟩
  · rw [h4, ← Int.add_emod_right, Int.emod_eq_of_lt (by omega) (by omega)]
  · rw [h4, Int.emod_eq_of_lt (by omega) (by omega)]

set_option maxHeartbeats 1000000 in
theorem RefRest_any (A : Option Addr) (n c : Nat) (keep : List Int) (i b : Nat) (I B : Int) (hI : I = i) (hB : B = b) (hb : 0 < b) (hbb : b ≤ 9000000) (hi : i ≤ 5) (w : World) (T : Nat → Prop) (h : IntsT w T (.slice A n c) keep) :
    Calls Tryd.prog 40 #[.slice A n c, .int .i64 I, .int .i64 B] w fun x w' => x = .returned (.int .i64 (restK keep i b : Int)) ∧ w' = w := by
  have hn : n = keep.length := by obtain ⟨_, _, hv, _, _⟩ := h.form; injection hv
  subst hI
  subst hB
  have H := Lib.hid h
  by_cases hlt : i < keep.length
  · obtain ⟨-, -, hcm, b2, o2, rfl, -, hc⟩ := h.at_ (by omega)
    have hq := hc i (.int .i64 keep[i]) (by rw [List.getElem?_map, List.getElem?_eq_getElem hlt]; rfl)
    obtain ⟨t1, t2, t3, t4⟩ := tmod_rest keep[i] b hb
    have hr : restK keep i b = (keep[i] % (b : Int)).toNat := by unfold restK; rw [if_pos hlt]; simp [List.getD, List.getElem?_eq_getElem hlt]
    have hm0 := Int.emod_nonneg keep[i] (show (b : Int) ≠ 0 by omega)
    generalize keep[i] = z at hq t1 t2 t3 t4 hr hm0
    have HR := Lib.hid hr
    obtain ⟨t, ht⟩ : ∃ t, t = z.tmod (b : Int) := ⟨_, rfl⟩
    rw [← ht] at t1 t2 t3 t4
    have hte : z.tmod (b : Int) = t := ht.symm
    have hw : IntKind.i64.wrap t = t := IntWalk.i64_in _ (by omega)
    have hb0 : ((b : Int) == 0) = false := by rw [beq_eq_false_iff_ne]; omega
    have hb1 : ¬ (b : Int) = 0 := by omega
    have i1 : ¬ (n : Int) ≤ (i : Int) := by omega
    have i2 : (i : Int) < (n : Int) := by omega
    have i3 : (0 : Int) ≤ (i : Int) := by omega
    by_cases hneg : t < 0
    · have hv := t1 hneg
      have hw2 : IntKind.i64.wrap (t + (b : Int)) = t + (b : Int) := IntWalk.i64_in _ (by omega)
      have HV : Hid ((restK keep i b : Int) = t + (b : Int)) := Lib.hid (by rw [hr]; omega)
      clear h hc t1 t2 hr hm0 ht hv hn hlt hcm
      go_enter Tryd.func40, Tryd.ntmps40
      go_wp2
      go_ret
      exact ⟨ret_int HV.out.symm, rfl⟩
    · have hv := t2 hneg
      have HV : Hid ((restK keep i b : Int) = t) := Lib.hid (by rw [hr]; omega)
      clear h hc t1 t2 hr hm0 ht hv hn hlt hcm
      go_enter Tryd.func40, Tryd.ntmps40
      go_wp2
      go_ret
      exact ⟨ret_int HV.out.symm, rfl⟩
  · have i1 : (n : Int) ≤ (i : Int) := by omega
    have HV : Hid (restK keep i b = 0) := Lib.hid (by unfold restK; rw [if_neg hlt])
    clear h hn hlt
    go_enter Tryd.func40, Tryd.ntmps40
    go_wp2
    go_ret
    exact ⟨by rw [HV.out]; rfl, rfl⟩

theorem RefNew_no (n : Int) (w : World) (h : n < 1 ∨ 4194304 < n) :
    Calls Tryd.prog 18 #[.int .i64 n] w fun x w' => x = .returned (.tuple #[.agg #[.slice none 0 0, .slice none 0 0, .int .i64 0, .bool false], .int .i64 1]) ∧ Below w.heap.size w w' := by
  have hres : Tryd.f18.results = #[.cell 2 41, .tmp 3] := by kernel_rfl
  by_cases h1 : n < 1
  · clear h
    go_enter Tryd.func18, Tryd.ntmps18
    go_wp2
    refine bodyPost_ret (v := .tuple #[.agg #[.slice none 0 0, .slice none 0 0, .int .i64 0, .bool false], .int .i64 1]) ?_ rfl ⟨rfl, (Below.refl _ _).alloc (Nat.le_refl _) _⟩
    simp only [results, hres]
    go_simp
  · have h2 : 4194304 < n := by omega
    clear h
    go_enter Tryd.func18, Tryd.ntmps18
    go_wp2
    refine bodyPost_ret (v := .tuple #[.agg #[.slice none 0 0, .slice none 0 0, .int .i64 0, .bool false], .int .i64 1]) ?_ rfl ⟨rfl, (Below.refl _ _).alloc (Nat.le_refl _) _⟩
    simp only [results, hres]
    go_simp

theorem made_zero (n : Nat) : (madeCells (Value.int .u8 0).cells (n * 1)).toList = Lib.byteCells (List.replicate n 0) := by
  apply List.ext_getElem?
  intro j
  rw [byteCells_get, List.getElem?_replicate]
  simp only [madeCells, Value.cells, Nat.mul_one]
  by_cases hj : j < n
  · simp [hj, Nat.mod_one]
  · simp [hj]

set_option maxHeartbeats 1000000 in
theorem RefNew_ok (n : Nat) (N : Int) (hN : N = n) (w : World) (h1 : 1 ≤ n) (h2 : n ≤ 4194304) :
    Calls Tryd.prog 18 #[.int .i64 N] w fun x w' => ∃ vB, x = .returned (.tuple #[rdv vB (.slice none 0 0) (newD n), .int .i64 0]) ∧ RD w' (fun k => w.heap.size ≤ k ∧ k < w'.heap.size) vB (.slice none 0 0) (newD n) ∧ Below w.heap.size w w' := by
  subst hN
  have hres : Tryd.f18.results = #[.cell 2 41, .tmp 3] := by kernel_rfl
  obtain ⟨i0, hi, hz0, hz1, hz2⟩ := info_parts info_u8
  have i1 : ¬ (n : Int) < 1 := by omega
  have i2 : ¬ (4194304 : Int) < (n : Int) := by omega
  obtain ⟨W1, hW1⟩ : ∃ W1, W1 = w.alloc (.cells #[.slice none 0 0, .slice none 0 0, .int .i64 0, .bool false] 41) := ⟨_, rfl⟩
  have hs1 : W1.heap.size = w.heap.size + 1 := by rw [hW1, World.size_alloc]
  have hb1 : Below w.heap.size w W1 := by rw [hW1]; exact (Below.refl _ _).alloc (Nat.le_refl _) _
  have hr : ∀ j v, (#[.slice none 0 0, .slice none 0 0, .int .i64 0, .bool false] : Array Value)[j]? = some v → ∀ W, Below W1.heap.size W1 W → W.cell? ⟨w.heap.size, j, none⟩ = some v ∧ W.frozen? ⟨w.heap.size, j, none⟩ = false := by
    intro j v hj W hW
    rw [hW.cell (p := ⟨w.heap.size, j, none⟩) (by show w.heap.size < W1.heap.size; omega), hW.frozen (p := ⟨w.heap.size, j, none⟩) (by show w.heap.size < W1.heap.size; omega), hW1, cell_of_row _ w.heap.size _ _ _ (0, 0) (heap_alloc_new w _)]
    exact ⟨hj, frozen_of_row _ w.heap.size j _ _ (heap_alloc_new w _)⟩
  have HB1 := Lib.hid (And.intro hb1 hs1)
  have HR := Lib.hid hr
  clear hr hb1 hs1
  go_enter Tryd.func18, Tryd.ntmps18
  go_upto_region 1 with fail
  rw [← hW1]
  clear hW1
  go_wp2_with (at_make; go_must (refine wpList_make_full _ rfl _ _ 24 rfl W1.heap.size 5 i0 _ 1 Tryd.underlying24 hi hz0 hz1 .i64 .i64 _ _ n rfl rfl rfl rfl (by rw [hz2]; omega) (by unfold maxLen; omega) (Nat.le_refl _) ?_; intro w2 hown hg2; have HB2 := Lib.hid ((Below.refl W1.heap.size W1).grown hg2 (Nat.le_refl _) (fun k hk => by cases hk)); obtain ⟨r0, f0⟩ := HR.out 0 _ rfl w2 HB2.out; obtain ⟨r1, f1⟩ := HR.out 1 _ rfl w2 HB2.out; obtain ⟨r2, f2⟩ := HR.out 2 _ rfl w2 HB2.out; obtain ⟨r3, f3⟩ := HR.out 3 _ rfl w2 HB2.out; have HO := Lib.hid hown; clear hown hg2))
  have hbF := set4_below (HB1.out.1.trans (HB2.out.mono HB1.out.1.size)) (Nat.le_refl w.heap.size) (.slice (some ⟨W1.heap.size, 0, none⟩) n n) (.slice none 0 0) (.int .i64 (-1)) (.bool false)
  have HBF := Lib.hid hbF
  clear hbF
  have hz : (madeCells (Value.int .u8 0).cells (n * 1)).toList = Lib.byteCells (List.replicate n 0) := made_zero n
  have ho := HO.out
  rw [hz] at ho
  have HO2 := Lib.hid ho
  clear hz ho HO
  refine bodyPost_ret (v := .tuple #[.agg #[.slice (some ⟨W1.heap.size, 0, none⟩) n n, .slice none 0 0, .int .i64 (-1), .bool false], .int .i64 0]) ?_ rfl ⟨.slice (some ⟨W1.heap.size, 0, none⟩) n n, rfl, ?_, HBF.out⟩
  · simp only [results, hres]
    go_simp
  · have hln : (List.replicate n (0 : UInt8)).length = n := List.length_replicate ..
    refine ⟨?_, WrsT.nil_ _ _, newD_ok n, by show 1 ≤ (List.replicate n (0 : UInt8)).length; omega, by show (List.replicate n (0 : UInt8)).length ≤ _; omega, by show 0 < 100000; omega, ⟨by show (-1 : Int) ≤ -1; omega, by show (-1 : Int) ≤ _; omega⟩⟩
    show SlT _ _ _ (List.replicate n 0)
    have ho := HO2.out
    have hs := SlT.of_own (bs := List.replicate n 0) (by rw [hln]; exact ho) (fun k => W1.heap.size ≤ k ∧ k < w2.heap.size) (fun g hg => ho.lt g hg)
    refine (hs.kept fun k hk _ => ?_).mono fun k hk => ⟨?_, ?_⟩
    · exact set4_block _ _ _ _ _ _ k (by have := HB1.out.2; have := hk.1; omega)
    · have := HB1.out.2; have := hk.1; omega
    · have := hk.2; simpa [World.setCell] using this

end Go.Proofs.YtlhagbcomnjnoaaDoor.pk
