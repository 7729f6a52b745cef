/-
  The law's own 'sure': it answers true.
-/
import Derived.Test.YtlhagbcomnjnoaaLive
import Derived.Lib.SlBytesConst
namespace Go.Proofs.Ytlhagbcomnjnoaa.pk
open Go Go.RowKit
set_option maxRecDepth 100000

theorem sure_put : putE (newD 9) 3 [97, 98] = 0 := by kernel_rfl
theorem sure_a : badE (startD (putD (newD 9) 3 [97, 98]) []) 3 2 = 0 ∧ readB (startD (putD (newD 9) 3 [97, 98]) []) 3 2 = [0, 0] := ⟨by kernel_rfl, by kernel_rfl⟩
theorem sure_b : badE (startD (putD (newD 9) 3 [97, 98]) [0, 1]) 3 2 = 0 ∧ readB (startD (putD (newD 9) 3 [97, 98]) [0, 1]) 3 2 = [97, 0] := ⟨by kernel_rfl, by kernel_rfl⟩
theorem sure_l : (putD (newD 9) 3 [97, 98]).L.length < 100000 := by show 1 < 100000; omega

set_option maxHeartbeats 2000000 in
theorem sure_any {Q : ConD → Prop} {C : ConD} (B : ConB Q C) (w : World) : Calls Try.prog 12 #[] w fun x w' => x = .returned (.bool true) ∧ Below w.heap.size w w' := by
  have kc := fun (w : World) (C : Array Value) (n c : Nat) => Lib.run_convert_bytes_const (P := Try.prog) w 30 5 C n c Try.underlying30 Try.underlying5
  go_enter Try.func12, Try.ntmps12
  go_upto_region 2 with (go_at_call 5; go_must (refine (live_new B w 9 (by omega) (by omega) 9 rfl).mono ?_; rintro y w1 ⟨p, S, rfl, h1⟩; have L1 := Lib.hid h1; clear h1))
  go_wp2_with fail
  have hl2 := L1.out.lit 5 [97, 98] (by simp) (2, 3)
  have c2 := live_write (L1.out.alloc (.cells #[.int .u8 97, .int .u8 98] 5 (2, 3))) 3 _ _ _ _ (by unfold inI; omega) (by show 0 < 100000; omega) hl2
  rw [sure_put, er_zero] at c2
  refine c2.mono ?_
  rintro y w2 ⟨S2, rfl, h2, _⟩
  have L2 := Lib.hid h2
  clear h2 c2 hl2
  go_upto_region 5 with (go_at_call 18; go_must (refine (live_clone B L2.out sure_l).mono ?_; rintro y w3 ⟨q, S3, C3, rfl, -, h3, g3, hd3, hb3⟩; have L3 := Lib.hid h3; have G3 := Lib.hid g3; have HD3 := Lib.hid hd3; clear h3 g3 hd3 hb3))
  go_upto_region 6 with (go_at_call 10; go_must (refine (live_start L3.out none 0 0 [] sure_l (RowT.nil_ _ _ 1) (by simp)).mono ?_; rintro y w4 ⟨S4, rfl, h4, ht4⟩; have g4 := G3.out.other L3.out.dk h4.dk ht4 HD3.out L3.out.low; have L4 := Lib.hid h4; have G4 := Lib.hid g4.1; have HD4 := Lib.hid g4.2; clear h4 g4 ht4))
  go_wp2_with fail
  have hl5 := G4.out.litRow 3 1 2 [.int .i64 0, .int .i64 1] rfl (by omega)
  have c5 := live_start (G4.out.alloc (.cells #[.int .i64 0, .int .i64 1] 3)) _ _ _ [0, 1] sure_l hl5 (by unfold inI; simp)
  refine c5.mono ?_
  rintro y w5 ⟨S5, rfl, h5, ht5⟩
  have g5 := (L4.out.alloc (.cells #[.int .i64 0, .int .i64 1] 3)).other (G4.out.alloc (.cells #[.int .i64 0, .int .i64 1] 3)).dk h5.dk ht5 (fun k hk hk' => HD4.out k hk' hk) G4.out.low
  have L5 := Lib.hid g5.1
  have G5 := Lib.hid h5
  clear h5 ht5 g5 c5 hl5
  go_upto_region 8 with (go_at_call 9; go_must (refine (live_read L5.out 3 2 (by unfold inI; omega) (by unfold inI; omega)).mono ?_; rintro y w6 ⟨v6, rfl, h6, l6, hb6⟩; rw [sure_a.2] at h6; rw [sure_a.1, er_zero]; obtain ⟨A6, n6, c6, rfl⟩ := h6.form; have T6 := Lib.hid h6; have G6 := Lib.hid (G5.out.more hb6); clear h6 l6 hb6))
  go_upto_region 9 with (go_at_call 9; go_must (refine (live_read G6.out 3 2 (by unfold inI; omega) (by unfold inI; omega)).mono ?_; rintro y w7 ⟨v7, rfl, h7, l7, hb7⟩; rw [sure_b.2] at h7; rw [sure_b.1, er_zero]; obtain ⟨A7, n7, c7, rfl⟩ := h7.form; have hc7 := conv_bytes h7.sl; have hc6 := conv_bytes (T6.out.sl.below hb7); have B7 := Lib.hid l7.below; clear h7 l7 hb7))
  go_wp2_with fail
  go_ret
  exact ⟨rfl, B7.out⟩

end Go.Proofs.Ytlhagbcomnjnoaa.pk
