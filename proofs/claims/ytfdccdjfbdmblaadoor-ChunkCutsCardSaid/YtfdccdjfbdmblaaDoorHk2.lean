/-
  The program's own pieces: two rows of bytes one behind the other (slices.Grow of nothing, slices.Concat of two).
-/
import Derived.Test.YtfdccdjfbdmblaaDoorHk1
import Derived.Lib.AppendZeros
namespace Go.Proofs.YtfdccdjfbdmblaaDoor.pk
open Go Go.RowKit
set_option maxRecDepth 100000

/-- slices.Grow of nothing: room of one's own. -/
theorem GrowK (n : Nat) (w : World) (hn : n ≤ 3000000) :
    Calls Tryd.prog 20 #[.slice none 0 0, .int .i64 (n : Int)] w fun y w' => ∃ v, y = .returned v ∧ w'.ownsRow w.heap.size 5 1 v 0 [] ∧ Below w.heap.size w w' := by
  obtain ⟨i0, hi, hz0, hz1, hz2⟩ := info_three info_byte
  rcases Nat.eq_zero_or_pos n with h0 | h0
  · subst h0
    clear hi hz0 hz1 hz2 hn
    go_enter Tryd.func20, Tryd.ntmps20
    go_wp2_with fail
    go_ret
    exact ⟨_, rfl, World.ownsRow_nil _ _ _ _, Below.refl _ _⟩
  · have happ := Lib.run_append_nil_zeros (P := Tryd.prog) w 22 3 22 5 i0 (.int .u8 0) .i64 .i64 Tryd.underlying22 Tryd.underlying3 hi hz0 n h0 (by omega) (by omega) (by rw [hz2]; omega)
    have hcl := grownCap_le_maxLen w n 0 5 (by unfold maxLen; omega)
    have hcg := grownCap_ge w n 0 5
    generalize grownCap w n 0 5 = cap at happ hcl hcg
    have hz : (Builtin.zeroCells (Value.int .u8 0).cells n ++ Builtin.zeroCells (Value.int .u8 0).cells (cap - n)).size = cap := by simp [size_zeroCells, Value.cells]; omega
    generalize Builtin.zeroCells (Value.int .u8 0).cells n ++ Builtin.zeroCells (Value.int .u8 0).cells (cap - n) = Z at happ hz
    have HA := Lib.hid (And.intro happ (And.intro hcl hz))
    have in1 : ¬ (n : Int) < 0 := by omega
    have in2 : (0 : Int) < (n : Int) := by omega
    have in3 : (n : Int) ≤ 3000000 := by omega
    clear happ hcl hi hz0 hz1 hz2 hz hn
    go_enter Tryd.func20, Tryd.ntmps20
    go_wp2_with (at_builtin; go_must (refine Lib.wpList_append_run _ rfl _ _ _ _ rfl _ _ rfl rfl _ _ HA.out.1 ?_))
    go_ret
    exact ⟨_, rfl, ⟨rfl, Or.inr ⟨w.heap.size, cap, Z, rfl, Nat.le_refl _, heap_alloc_new w _, Nat.zero_le _, HA.out.2.1, by rw [HA.out.2.2, Nat.mul_one], by simp⟩⟩, ⟨rfl, rfl, rfl, (below_alloc w _).size, (below_alloc w _).block⟩⟩

set_option maxHeartbeats 4000000 in
/-- slices.Concat of two. -/
theorem ConcatK (A1 A2 : Option Addr) (n1 c1 n2 c2 g : Nat) (b1 b2 : List UInt8) (w : World) (h1 : Bys w (.slice A1 n1 c1) b1) (h2 : Bys w (.slice A2 n2 c2) b2)
    (hg : w.heap[g]? = some (.cells #[.slice A1 n1 c1, .slice A2 n2 c2] 22 (0, 0))) (hs1 : n1 ≤ 1048576) (hs2 : n2 ≤ 1048576) :
    Calls Tryd.prog 15 #[.slice (some ⟨g, 0, none⟩) 2 2] w fun y w' => ∃ v, y = .returned v ∧ w'.ownsRow w.heap.size 5 1 v (b1 ++ b2).length (Lib.byteCells (b1 ++ b2)) ∧ Below w.heap.size w w' := by
  obtain ⟨x0, x1⟩ := kcells2 hg
  have hgl := kobj_lt hg
  have in1 : (n1 : Int) ≤ 1048576 := by omega
  have in2 : (n2 : Int) ≤ 1048576 := by omega
  have HH := Lib.hid (And.intro h1 (And.intro h2 (And.intro hg (And.intro hs1 hs2))))
  have HC := Lib.hid fun W (hW : Below w.heap.size w W) => kcells2 ((hW.block g hgl).trans hg)
  have HG := Lib.hid (GrowK (n1 + n2) w (by omega))
  have hcast : ((n1 + n2 : Nat) : Int) = (n1 : Int) + (n2 : Int) := by omega
  rw [hcast] at HG
  clear h1 h2 hg hs1 hs2 hcast hgl
  go_enter Tryd.func15, Tryd.ntmps15
  go_wp2_with fail
  go_loopw [3, 11] (fun ss ii wr => ((ii = .int .i64 0 ∧ ss = .int .i64 0) ∨ (ii = .int .i64 1 ∧ ss = .int .i64 (n1 : Int)) ∨ (ii = .int .i64 2 ∧ ss = .int .i64 ((n1 : Int) + (n2 : Int)))) ∧ w = wr) (fun _ ii _ => 2 - (intOf ii).toNat)
  case atStart => exact ⟨Or.inl ⟨rfl, rfl⟩, rfl⟩
  case round =>
    obtain ⟨⟨rfl, rfl⟩ | ⟨rfl, rfl⟩ | ⟨rfl, rfl⟩, rfl⟩ := hrel
    · go_wp2_with fail
      go_roundw
      case rel => exact ⟨Or.inr (Or.inl ⟨by go_num, by go_num⟩), trivial⟩
      case measure => simp [intOf]
    · go_wp2_with fail
      go_roundw
      case rel => exact ⟨Or.inr (Or.inr ⟨by go_num, by go_num⟩), trivial⟩
      case measure => simp [intOf]
    · go_upto_region 10 with (go_at_call 20; go_must (refine HG.out.mono ?_; rintro y w1 ⟨v, rfl, hd1, hb1⟩; have HB1 := Lib.hid (And.intro hd1 hb1); clear hd1 hb1))
      go_wp2_with fail
      go_loopw [6, 27] (fun vv ii wr => ((ii = .int .i64 0 ∧ wr.ownsRow w.heap.size 5 1 vv ([] : List UInt8).length (Lib.byteCells [])) ∨ (ii = .int .i64 1 ∧ wr.ownsRow w.heap.size 5 1 vv b1.length (Lib.byteCells b1)) ∨ (ii = .int .i64 2 ∧ wr.ownsRow w.heap.size 5 1 vv (b1 ++ b2).length (Lib.byteCells (b1 ++ b2)))) ∧ Below w.heap.size w wr) (fun _ ii _ => 2 - (intOf ii).toNat)
      case atStart => exact ⟨Or.inl ⟨rfl, HB1.out.1⟩, HB1.out.2⟩
      case round =>
        obtain ⟨⟨rfl, how⟩ | ⟨rfl, how⟩ | ⟨rfl, how⟩, hbw⟩ := hrel
        · obtain ⟨y0, y1⟩ := HC.out _ hbw
          have HO := Lib.hid (And.intro how (And.intro hbw (HH.out.1.below hbw)))
          clear how hbw
          go_wp2_with (at_builtin; go_must (refine wpList_joinB (xs := []) (B := w.heap.size) HO.out.1 rfl _ _ rfl rfl A1 n1 c1 rfl b1 HO.out.2.2 ?c1 ?c2 ?c3))
          case c1 => have := HH.out.2.2.2.1; simp; omega
          case c2 => exact HO.out.2.1.size
          case c3 =>
            intro v' w2 ho hg
            have hb2 := HO.out.2.1.grown hg HO.out.2.1.size fun k hk => (HO.out.1.lt k hk).1
            have HF := Lib.hid (And.intro ho hb2)
            clear ho hg hb2
            go_wp2_with fail
            go_roundw
            case rel => exact ⟨Or.inr (Or.inl ⟨by go_num, HF.out.1⟩), HF.out.2⟩
            case measure => simp [intOf]
        · obtain ⟨y0, y1⟩ := HC.out _ hbw
          have HO := Lib.hid (And.intro how (And.intro hbw (HH.out.2.1.below hbw)))
          clear how hbw
          go_wp2_with (at_builtin; go_must (refine wpList_joinB (xs := b1) (B := w.heap.size) HO.out.1 rfl _ _ rfl rfl A2 n2 c2 rfl b2 HO.out.2.2 ?c1 ?c2 ?c3))
          case c1 => have h1 := HH.out.2.2.2.1; have h2 := HH.out.2.2.2.2; have h3 := HH.out.1.len_; omega
          case c2 => exact HO.out.2.1.size
          case c3 =>
            intro v' w2 ho hg
            have hb2 := HO.out.2.1.grown hg HO.out.2.1.size fun k hk => (HO.out.1.lt k hk).1
            have HF := Lib.hid (And.intro ho hb2)
            clear ho hg hb2
            go_wp2_with fail
            go_roundw
            case rel => exact ⟨Or.inr (Or.inr ⟨by go_num, by rw [List.length_append]; exact HF.out.1⟩), HF.out.2⟩
            case measure => simp [intOf]
        · have HO := Lib.hid (And.intro how hbw)
          clear how hbw
          go_wp2_with fail
          go_ret
          exact ⟨_, rfl, HO.out.1, HO.out.2⟩

end Go.Proofs.YtfdccdjfbdmblaaDoor.pk
