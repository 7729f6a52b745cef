/-
  What must come whatever the input is.
-/
import Derived.Test.YtlngcfaadfkbnaaDoorConG
namespace Go.Proofs.YtlngcfaadfkbnaaDoor.pk
open Go Go.RowKit
set_option maxRecDepth 100000

theorem inI_of_le {x : Int} (h0 : 0 ≤ x) (h1 : x ≤ 9223372036854775807) : inI x := ⟨by omega, h1⟩
theorem put3_size (w : World) (b : Nat) (v0 v1 v2 : Value) : (put3 w b v0 v1 v2).heap.size = w.heap.size := by unfold put3; simp only [World.size_setCell]
theorem put3_other (w : World) (b : Nat) (v0 v1 v2 : Value) (k : Nat) (hk : k ≠ b) : (put3 w b v0 v1 v2).heap[k]? = w.heap[k]? := by
  unfold put3; rw [Below.heap_setCell _ _ _ _ hk, Below.heap_setCell _ _ _ _ hk, Below.heap_setCell _ _ _ _ hk]

theorem ents_lit (w : World) : Ents (w.alloc (.cells #[.int .i64 3, .int .i64 3, .int .i64 0, .slice none 0 0] 41)) (.slice (some ⟨w.heap.size, 0, none⟩) 1 1) moreS := by
  refine ⟨⟨[.int .i64 3, .int .i64 3, .int .i64 0, .slice none 0 0], ⟨rfl, some ⟨w.heap.size, 0, none⟩, 1, rfl, by decide, by omega, Or.inr ⟨w.heap.size, 0, rfl, ?_, fun j u hj => ?_⟩⟩, fun j hj => ?_⟩, fun e he => ?_⟩
  · rw [World.size_alloc]; omega
  · rw [Nat.zero_add, cell_of_row _ w.heap.size _ _ _ (0, 0) (heap_alloc_new w _)]
    simpa using hj
  · have h0 : j = 0 := by simp only [moreS, List.length_cons, List.length_nil] at hj; omega
    subst h0
    exact ⟨rfl, rfl, rfl, _, rfl, SlT.nil_ _ _⟩
  · simp only [moreS, List.mem_cons, List.not_mem_nil, or_false] at he
    subst he
    unfold En.ok inI
    decide

set_option maxHeartbeats 8000000 in
theorem sureG (C : ConG) (w : World) : Calls Tryd.prog 9 #[] w fun y w' => y = .returned (.bool true) ∧ Below w.heap.size w w' := by
  obtain ⟨W1, gx, hW1, hgx, hb1, hq, hsz⟩ := one_box w (.cells #[.int .i64 0, .int .i64 0, .slice none 0 0] 29)
  have HW := Lib.hid (And.intro hW1 hgx)
  have HE := Lib.hid (And.intro hb1 (And.intro hq (show w.heap.size ≤ gx by omega)))
  clear hW1 hgx hb1 hq hsz
  go_enter Tryd.func9, Tryd.ntmps9
  go_upto_region 2 with fail
  rw [← HW.out.1, ← HW.out.2]
  go_wp2_with fail
  go_loopw [2] (fun ii wr => ∃ (j : Nat) (A : Option Addr) (c : Nat), j ≤ 3 ∧ ii = .int .i64 (j : Int) ∧ wr.heap[gx]? = some (.cells #[.int .i64 0, .int .i64 0, .slice A j c] 29 (0, 0)) ∧ EntsT wr (fun k => k < wr.heap.size ∧ k ≠ gx) (.slice A j c) (logS j).l ∧ Below w.heap.size w wr) (fun ii _ => 3 - (intOf ii).toNat)
  case atStart => exact ⟨0, none, 0, by omega, rfl, HE.out.2.1, ⟨[], RowT.nil_ _ _ _, fun j h => by simp [logS] at h⟩, HE.out.1⟩
  case round =>
    obtain ⟨j, A, c, hj, rfl, hqx, hen, hbw⟩ := hrel
    have HQ := Lib.hid (And.intro hqx (And.intro hen hbw))
    have hE : Ents wr (.slice A j c) (logS j).l := ⟨hen.move (fun _ _ _ => rfl) fun _ hk => hk.1, logS_ok j⟩
    obtain ⟨x0, x1, x2⟩ := cells3 hqx
    by_cases hlt : j < 3
    · have i1 : (j : Int) < 3 := by omega
      have i2 : (0 : Int) ≤ (j : Int) := by omega
      have hts : 1 + (j : Int) / 2 = tS j := rfl
      have i0 : inI 0 := inI_of_le (by decide) (by decide)
      have CA := C.gAdd (logS j) A j c (tS j) 1 none 0 0 [] wr hE i0 i0 (logS_small j) (inI_of_le (by unfold tS; omega) (by unfold tS; omega)) (inI_of_le (by decide) (by decide)) (Bys.nil_ _) (by omega) _ (add_ex hlt).symm (j + 1) (logS_len (by omega)).symm
      have e0 : ∀ j, (logS j).base = 0 := fun _ => rfl
      have e1 : ∀ j, (logS j).term = 0 := fun _ => rfl
      simp only [er_zero, e0, e1] at CA
      have CA := Lib.hid CA
      obtain ⟨j1, hj1⟩ : ∃ j1, j1 = j + 1 := ⟨_, rfl⟩
      rw [← hj1] at CA
      have HJ := Lib.hid hj1
      clear hqx hen hbw hE hj1 e0 e1 i0
      go_upto_region 6 with (go_at_call 30; go_must (refine CA.out.mono ?_; rintro y w1 ⟨A1, c1, rfl, hd1, hb1⟩; have HB1 := Lib.hid (And.intro hd1 hb1); clear hd1 hb1))
      have hlg : gx < wr.heap.size := obj_lt HQ.out.1
      have hqm := heap_alloc_new w1 (.cells #[.int .i64 0, .int .i64 0, .slice A1 j1 c1] 29)
      have hb3 : Below wr.heap.size wr (w1.alloc (.cells #[.int .i64 0, .int .i64 0, .slice A1 j1 c1] 29)) := HB1.out.2.alloc HB1.out.2.size _
      have hqx := (hb3.block gx hlg).trans HQ.out.1
      have hd3 : EntsT (w1.alloc (.cells #[.int .i64 0, .int .i64 0, .slice A1 j1 c1] 29)) (fun q => wr.heap.size ≤ q ∧ q < w1.heap.size) (.slice A1 j1 c1) (logS j1).l := HB1.out.1.move (fun k hk _ => heap_alloc_old _ _ hk.2) fun _ h => h
      have hz3 : (w1.alloc (.cells #[.int .i64 0, .int .i64 0, .slice A1 j1 c1] 29)).heap.size = w1.heap.size + 1 := World.size_alloc _ _
      obtain ⟨W3, hW3⟩ : ∃ W, W = w1.alloc (.cells #[.int .i64 0, .int .i64 0, .slice A1 j1 c1] 29) := ⟨_, rfl⟩
      obtain ⟨gm, hgm⟩ : ∃ g, g = w1.heap.size := ⟨_, rfl⟩
      rw [← hW3] at hqm hb3 hqx hd3 hz3 ⊢
      rw [← hgm] at hqm hd3 hz3 ⊢
      have H3 := Lib.hid (And.intro hb3 (And.intro hqx (And.intro hd3 (And.intro hz3 hlg))))
      clear x0 x1 x2 hW3 hgm hb3 hd3 hz3 hlg
      obtain ⟨x0, x1, x2⟩ := cells3 hqx
      obtain ⟨y0, y1, y2⟩ := cells3 hqm
      have f0 := frozen_own hqx 0
      have f1 := frozen_own hqx 1
      have f2 := frozen_own hqx 2
      clear hqx hqm
      go_wp2_with fail
      obtain ⟨WF, hWF⟩ : ∃ W, W = put3 W3 gx (.int .i64 0) (.int .i64 0) (.slice A1 j1 c1) := ⟨_, rfl⟩
      have hWF' := hWF
      unfold put3 at hWF'
      rw [← hWF']
      have HWF := Lib.hid hWF
      clear hWF hWF' x0 x1 x2 y0 y1 y2 f0 f1 f2
      go_roundw
      case rel =>
        refine ⟨j1, A1, c1, by have := HJ.out; omega, by rw [HJ.out]; go_num, by rw [HWF.out]; exact put3_own H3.out.2.1 _ _ _, ?_, ?_⟩
        · refine H3.out.2.2.1.move (fun k hk _ => ?_) fun k hk => ⟨?_, ?_⟩
          · rw [HWF.out]; exact put3_other _ _ _ _ _ k (by have := H3.out.2.2.2.2; omega)
          · rw [HWF.out, put3_size]; have := H3.out.2.2.2.1; omega
          · have := H3.out.2.2.2.2; omega
        · rw [HWF.out]
          exact put3_below (HQ.out.2.2.trans (H3.out.1.mono HQ.out.2.2.size)) HE.out.2.2
      case measure => simp [intOf]; have := HJ.out; omega
    · obtain rfl : j = 3 := by omega
      have i0 : inI 0 := inI_of_le (by decide) (by decide)
      have hM : ∀ A' n' c' W, Ents W (.slice A' n' c') moreS → Below wr.heap.size wr W → _ := fun A' n' c' W h hW => C.gMergeS (logS 3) A 3 c 2 1 A' n' c' moreS W (hE.below hW) i0 i0 (logS_small 3) (inI_of_le (by decide) (by decide)) (inI_of_le (by decide) (by decide)) h ⟨by decide, fun e he => by
        simp only [moreS, List.mem_cons, List.not_mem_nil, or_false] at he
        subst he
        decide⟩ logT 3 merge_ex 3 rfl
      have hL : ∀ A' c' W, Ents W (.slice A' 3 c') logT.l → _ := fun A' c' W h => C.gLast logT A' 3 c' W h i0 i0 ⟨by decide, fun e he => by
        simp only [logT, List.mem_cons, List.not_mem_nil, or_false] at he
        rcases he with rfl | rfl | rfl <;> decide⟩ (3, 3) last_ex.symm
      have HM := Lib.hid hM
      have HL := Lib.hid hL
      clear hM hL hqx hen hbw hE i0
      go_wp2_with (first
        | (go_at_call 22; go_must (refine (HM.out _ _ _ _ (ents_lit wr) (below_alloc wr _)).mono ?_; rintro y w1 ⟨A1, c1, rfl, hd1, hb1⟩; have HB1 := Lib.hid (And.intro hd1.ents ((below_alloc wr _).trans (hb1.mono (by rw [World.size_alloc]; omega)))); clear hd1 hb1))
        | (go_at_call 11; go_must (refine (HL.out _ _ _ (HB1.out.1.below (below_alloc w1 _))).mono ?_; rintro y w2 ⟨rfl, hb2⟩; have HB2 := Lib.hid ((HQ.out.2.2.trans (HB1.out.2.mono HQ.out.2.2.size)).trans (((below_alloc w1 _).trans (hb2.mono (by rw [World.size_alloc]; omega))).mono (Nat.le_trans HQ.out.2.2.size HB1.out.2.size))); clear hb2)))
      go_ret
      exact ⟨rfl, HB2.out⟩

end Go.Proofs.YtlngcfaadfkbnaaDoor.pk
