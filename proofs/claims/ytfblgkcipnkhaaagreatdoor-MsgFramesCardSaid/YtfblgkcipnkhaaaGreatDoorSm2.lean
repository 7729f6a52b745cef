/-
  The program's own sealing: walked.
-/
import Derived.Test.YtfblgkcipnkhaaaGreatDoorJl
import Derived.Laws.Cover3
namespace Go.Proofs.YtfblgkcipnkhaaaGreatDoor.pk
open Go Go.RowKit
set_option maxRecDepth 100000

theorem tail4_four (m : Nat) : ∃ t0 t1 t2 t3 : UInt8, tail4 m = [t0, t1, t2, t3] := ⟨_, _, _, _, rfl⟩

theorem SumBytes_any (m : Nat) (hm : m < 4294967296) (t0 t1 t2 t3 : UInt8) (ht : tail4 m = [t0, t1, t2, t3]) (w : World) :
    Calls Tryz.prog 82 #[.int .u32 (m : Int)] w fun x w' => x = .returned (.agg #[.int .u8 (t0.toNat : Int), .int .u8 (t1.toNat : Int), .int .u8 (t2.toNat : Int), .int .u8 (t3.toNat : Int)]) ∧ Below w.heap.size w w' := by
  unfold tail4 at ht
  simp only [List.cons.injEq, and_true] at ht
  obtain ⟨h0, h1, h2, h3⟩ := ht
  have g0 : t0.toNat = m % 256 := by rw [← h0, toNat_ofNat]
  have g1 : t1.toNat = m / 256 % 256 := by rw [← h1, toNat_ofNat]
  have g2 : t2.toNat = m / 65536 % 256 := by rw [← h2, toNat_ofNat]
  have g3 : t3.toNat = m / 16777216 % 256 := by rw [← h3, toNat_ofNat]
  clear h0 h1 h2 h3
  obtain ⟨d1, f1⟩ : ∃ d1 : Nat, d1 = m / 256 := ⟨_, rfl⟩
  obtain ⟨d2, f2⟩ : ∃ d2 : Nat, d2 = m / 65536 := ⟨_, rfl⟩
  obtain ⟨d3, f3⟩ : ∃ d3 : Nat, d3 = m / 16777216 := ⟨_, rfl⟩
  have e1 : (m : Int) / 256 = (d1 : Int) := by rw [f1]; rfl
  have e2 : (m : Int) / 65536 = (d2 : Int) := by rw [f2]; rfl
  have e3 : (m : Int) / 16777216 = (d3 : Int) := by rw [f3]; rfl
  have w1 : IntKind.u32.wrap (d1 : Int) = (d1 : Int) := by rw [IntKind.wrap_u32']; omega
  have w2 : IntKind.u32.wrap (d2 : Int) = (d2 : Int) := by rw [IntKind.wrap_u32']; omega
  have w3 : IntKind.u32.wrap (d3 : Int) = (d3 : Int) := by rw [IntKind.wrap_u32']; omega
  have b0 : IntKind.u8.wrap (m : Int) = (t0.toNat : Int) := by rw [IntKind.wrap_u8']; omega
  have b1 : IntKind.u8.wrap (d1 : Int) = (t1.toNat : Int) := by rw [IntKind.wrap_u8']; omega
  have b2 : IntKind.u8.wrap (d2 : Int) = (t2.toNat : Int) := by rw [IntKind.wrap_u8']; omega
  have b3 : IntKind.u8.wrap (d3 : Int) = (t3.toNat : Int) := by rw [IntKind.wrap_u8']; omega
  clear f1 f2 f3 g0 g1 g2 g3 hm
  go_enter Tryz.func82, Tryz.ntmps82
  go_wp2
  refine bodyPost_ret (v := .agg #[.int .u8 (t0.toNat : Int), .int .u8 (t1.toNat : Int), .int .u8 (t2.toNat : Int), .int .u8 (t3.toNat : Int)]) ?_ rfl ⟨rfl, (Below.refl _ _).alloc (Nat.le_refl _) _⟩
  have hres : Tryz.f82.results = #[.cell 2 141] := by kernel_rfl
  simp only [results, hres]
  go_simp

set_option maxHeartbeats 1000000 in
theorem Seal_any (kind : UInt8) (A : Option Addr) (n c : Nat) (b : List UInt8) (w : World) (B : Nat) (hB : B ≤ w.heap.size) (h : Sl w B (.slice A n c) b) :
    Calls Tryz.prog 57 #[.int .u8 (kind.toNat : Int), .slice A n c] w fun x w' => ∃ v, x = .returned (.tuple #[v, er (sealE kind b)]) ∧ w'.ownsRow w.heap.size 5 1 v (sealB kind b).length (Lib.byteCells (sealB kind b)) ∧ Below w.heap.size w w' := by
  obtain ⟨i0, hi, hz0, hz1, hz2⟩ := info_parts info_u8
  obtain ⟨hn, hc1, hc2⟩ := h.len
  have H := Lib.hid h
  have HN := Lib.hid hn
  clear h
  by_cases hk : kind = 0
  · have he : sealE kind b = 1 := by unfold sealE; rw [if_pos hk]
    have hs : sealB kind b = [] := by unfold sealB; rw [he]; rfl
    have hkI : (kind.toNat : Int) = 0 := by rw [hk]; rfl
    rw [he, hs, hkI]
    clear hk he hs hkI hn
    go_enter Tryz.func57, Tryz.ntmps57
    go_wp2
    go_ret2
    exact ⟨_, rfl, World.ownsRow_nil _ _ _ _, Below.refl _ _⟩
  · have hk0 : ¬ kind.toNat = 0 := fun e => hk (UInt8.toNat_inj.1 (by rw [e]; rfl))
    have hkI : ¬ (kind.toNat : Int) = 0 := by omega
    have hkB : ((kind.toNat : Int) == 0) = false := by rw [beq_eq_false_iff_ne]; exact hkI
    by_cases hl : 1048576 < b.length
    · have he : sealE kind b = 2 := by unfold sealE; rw [if_neg hk, if_pos hl]
      have hs : sealB kind b = [] := by unfold sealB; rw [he]; rfl
      have i1 : (1048576 : Int) < (n : Int) := by omega
      rw [he, hs]
      generalize (kind.toNat : Int) = kI at hkI hkB
      clear hk he hs hn hk0 hl
      go_enter Tryz.func57, Tryz.ntmps57
      go_wp2
      go_ret2
      exact ⟨_, rfl, World.ownsRow_nil _ _ _ _, Below.refl _ _⟩
    · have he : sealE kind b = 0 := by unfold sealE; rw [if_neg hk, if_neg hl]
      have hs : sealB kind b = (kind :: b) ++ tail4 (sum (kind :: b)) := by unfold sealB; rw [if_pos he]
      have i1 : ¬ (1048576 : Int) < (n : Int) := by omega
      have i2 : (n : Int) ≤ 1048576 := by omega
      rw [he, er_zero]
      have HNb := Lib.hid (show b.length ≤ 1048576 by omega)
      have HS4 := Lib.hid (sum_lt (kind :: b))
      obtain ⟨t0, t1, t2, t3, ht⟩ := tail4_four (sum (kind :: b))
      have HT := Lib.hid ht
      have HSS := Lib.hid hs
      clear hk he hn hk0 hl ht hs
      go_enter Tryz.func57, Tryz.ntmps57
      go_upto_region 6 with (at_make; refine wpList_make_own _ rfl _ _ 22 rfl w.heap.size 5 i0 _ 1 Tryz.underlying22 hi hz0 hz1 .i64 .i64 _ (1 + n + 4) rfl rfl (by omega) (by rw [hz2]; omega) (by unfold maxLen; omega) (Nat.le_refl _) ?_; intro w0 hown0 hg0; have HO0 := Lib.hid hown0; have HB0 := Lib.hid ((Below.refl w.heap.size w).grown hg0 (Nat.le_refl _) (fun k hk => by cases hk)); clear hown0 hg0)
      obtain ⟨W1, hW1⟩ : ∃ W1, W1 = w0.alloc (.cells #[.int .u8 (kind.toNat : Int)] 5) := ⟨_, rfl⟩
      have hb1 : Below w.heap.size w W1 := by rw [hW1]; exact HB0.out.alloc HB0.out.size _
      have hl1 : Sl W1 W1.heap.size (.slice (some ⟨w0.heap.size, 0, none⟩) 1 1) [kind] := by rw [hW1]; exact Sl.lit w0 5 [kind] _ (by simp) (by simp)
      have ho1 : W1.ownsRow w.heap.size 5 1 (.slice (some ⟨w.heap.size, 0, none⟩) 0 (1 + n + 4)) 0 [] := by rw [hW1]; exact HO0.out.alloc _
      have HO1 := Lib.hid ho1
      have HB1 := Lib.hid hb1
      have HL1 := Lib.hid hl1
      clear hb1 hl1 ho1
      go_upto_region 9 with (first
        | (go_at_call 82; go_must (refine (SumBytes_any _ HS4.out t0 t1 t2 t3 HT.out _).mono ?_; rintro y w5 ⟨rfl, hb5⟩; have HO5 := Lib.hid (own_below HO3.out hb5); have HB5 := Lib.hid (HB3.out.trans (hb5.mono HB3.out.size)); clear hb5))
        | (go_at_call 83; go_must (refine (Sum_any A3 _ c3 (kind :: b) _ _ T3.out).mono ?_; rintro y w4 ⟨rfl, rfl⟩))
        | (at_builtin; refine wpList_append_sl rfl _ _ 22 rfl w.heap.size 5 i0 _ Tryz.underlying22 hi hz0 hz1 hz2 rfl _ _ _ rfl HO2.out B A n c b rfl (H.out.below (HB2.out.mono hB)) (by have := HNb.out; omega) HB2.out.size ?_; intro v3 w3 hown3 hg3; have HB3 := Lib.hid (HB2.out.grown hg3 HB2.out.size (fun k hk => (HO2.out.lt k hk).1)); have HO3' := Lib.hid (show w3.ownsRow w.heap.size 5 1 v3 (1 + b.length) (Lib.byteCells (kind :: b)) from hown3); obtain ⟨A3, c3, hv3, hsl3⟩ := own_sl HO3'.out (by simp; omega); subst hv3; have T3 := Lib.hid hsl3; have HO3 := Lib.hid HO3'.out; clear hown3 hg3 hsl3 HO3')
        | (at_builtin; refine wpList_append_sl rfl _ _ 22 rfl w.heap.size 5 i0 _ Tryz.underlying22 hi hz0 hz1 hz2 rfl _ 0 [] rfl (by rw [← hW1]; exact HO1.out) W1.heap.size (some ⟨w0.heap.size, 0, none⟩) 1 1 [kind] rfl (by rw [← hW1]; exact HL1.out) (by simp) (by rw [← hW1]; exact HB1.out.size) ?_; rw [← hW1]; intro v2 w2 hown2 hg2; have HB2 := Lib.hid (HB1.out.grown hg2 HB1.out.size (fun k hk => (HO1.out.lt k hk).1)); have HO2 := Lib.hid (show w2.ownsRow w.heap.size 5 1 v2 1 (Lib.byteCells [kind]) from hown2); clear hown2 hg2))
      obtain ⟨W6, hW6⟩ : ∃ W6, W6 = w5.alloc (.cells #[.int .u8 (t0.toNat : Int), .int .u8 (t1.toNat : Int), .int .u8 (t2.toNat : Int), .int .u8 (t3.toNat : Int)] 141) := ⟨_, rfl⟩
      have hb6 : Below w.heap.size w W6 := by rw [hW6]; exact HB5.out.alloc HB5.out.size _
      have hl6 : Sl W6 W6.heap.size (.slice (some ⟨w5.heap.size, 0, none⟩) 4 4) [t0, t1, t2, t3] := by rw [hW6]; exact Sl.lit w5 141 [t0, t1, t2, t3] _ (by simp) (by simp)
      have ho6 : W6.ownsRow w.heap.size 5 1 (.slice A3 (1 + b.length) c3) (1 + b.length) (Lib.byteCells (kind :: b)) := by rw [hW6]; exact HO5.out.alloc _
      have HO6 := Lib.hid ho6
      have HB6 := Lib.hid hb6
      have HL6 := Lib.hid hl6
      clear hb6 hl6 ho6
      go_wp2_with (at_builtin; refine wpList_append_sl rfl _ _ 22 rfl w.heap.size 5 i0 _ Tryz.underlying22 hi hz0 hz1 hz2 rfl _ _ _ rfl (by rw [← hW6]; exact HO6.out) W6.heap.size (some ⟨w5.heap.size, 0, none⟩) 4 4 [t0, t1, t2, t3] rfl (by rw [← hW6]; exact HL6.out) (by have := HNb.out; simp; omega) (by rw [← hW6]; exact HB6.out.size) ?_; rw [← hW6]; intro v7 w7 hown7 hg7; have HB7 := Lib.hid (HB6.out.grown hg7 HB6.out.size (fun k hk => (HO6.out.lt k hk).1)); have HO7 := Lib.hid hown7; clear hown7 hg7)
      go_ret2
      refine ⟨_, rfl, ?_, HB7.out⟩
      rw [HSS.out, HT.out]
      have := HO7.out
      have hlen : ((kind :: b) ++ [t0, t1, t2, t3]).length = 1 + b.length + [t0, t1, t2, t3].length := by simp; omega
      rw [hlen]
      simpa [Lib.byteCells] using this

end Go.Proofs.YtfblgkcipnkhaaaGreatDoor.pk
