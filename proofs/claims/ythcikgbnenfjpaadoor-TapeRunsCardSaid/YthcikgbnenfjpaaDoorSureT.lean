/-
  The law's own 'sure': it answers true.
-/
import Derived.Test.YthcikgbnenfjpaaDoorTapL
import Derived.Lib.SlBytesConst
import Derived.Outline
namespace Go.Proofs.YthcikgbnenfjpaaDoor.pk
open Go Go.RowKit
set_option maxRecDepth 100000

def abcde : List UInt8 := [97, 98, 99, 100, 101]

set_option maxHeartbeats 4000000 in
theorem sure_any {Q : ConD → Prop} {C : ConD} (B : ConB Q C) (w : World) : Calls Tryd.prog 7 #[] w fun x w' => x = .returned (.bool true) ∧ Below w.heap.size w w' := by
  have kc := fun (w : World) (C : Array Value) (n c : Nat) => Lib.run_convert_bytes_const (P := Tryd.prog) w 22 5 C n c Tryd.underlying22 Tryd.underlying5
  have hr0 := rests_new 30 5 20 (by omega) (by omega)
  have s0 := hr0.state
  have HR0 := Lib.hid hr0
  have HS0 := Lib.hid s0
  have ap := append_calm (b := abcde) s0 (by show (-1 : Int) < 0; omega) (by show 0 + 5 + 5 ≤ 20; omega) (by show 5 ≤ 1048576; omega)
  have HA := Lib.hid ap
  clear ap hr0 s0
  go_enter Tryd.func7, Tryd.ntmps7
  go_upto_region 2 with (go_at_call 8; go_must (refine (live_new B w 30 (by omega) (by omega) 30 rfl).mono ?_; rintro y w1 ⟨p, S, rfl, h1⟩; have L1 := Lib.hid h1; clear h1))
  go_upto_region 3 with (go_at_call 11; go_must (refine (live_open L1.out 5 20 HR0.out).mono ?_; rintro y w2 ⟨q, v, rfl, h2, ho2, -, -, -⟩; obtain ⟨Av, cv, rfl, -, -⟩ := ho2.form; have T2 := Lib.hid h2; clear h2 ho2))
  have r2 := lt_room T2.out
  rw [show roomZ (((openT 5 20 []).len : Int) - (openT 5 20 []).fin) = 15 from rfl] at r2
  have R2 := Lib.hid r2
  clear r2
  have ap2 := fun (W : World) (h : LT C w W S q p (newD 30) (openT 5 20 [])) => lt_append_new (h.more ((Below.refl W.heap.size W).alloc (Nat.le_refl _) (.cells #[.int .u8 97, .int .u8 98, .int .u8 99, .int .u8 100, .int .u8 101] 5 (5, 6)))) HS0.out _ 5 5 abcde (by show 5 ≤ 1048576; omega) (by show 0 + 5 + 5 ≤ 20; omega) (h.lit 5 abcde (by show 5 ≤ _; omega) (5, 6))
  rw [HA.out.1, er_zero] at ap2
  have AP := Lib.hid ap2
  obtain ⟨d4, hd4⟩ : ∃ d4, d4 = (appS (newD 30) (openT 5 20 []) abcde).1 := ⟨_, rfl⟩
  rw [← hd4] at AP HA
  have HRS := Lib.hid HA.out.2.1.rests
  clear ap2 hd4
  have r4 := fun (W : World) (S4 : Nat → Prop) (h : LT C w W S4 q p d4 (appT (openT 5 20 []) abcde 0)) => lt_room h
  rw [show roomZ (((appT (openT 5 20 []) abcde 0).len : Int) - (appT (openT 5 20 []) abcde 0).fin) = 5 from rfl] at r4
  have R4 := Lib.hid r4
  clear r4
  go_upto_region 5 with (first
    | (go_at_call 16; (refine (R4.out w4 S4 T4.out).mono ?_; rintro y w5 ⟨rfl, h5, -⟩; have T5 := Lib.hid h5; clear h5))
    | (go_at_call 18; go_must (refine (AP.out w3 T3.out).mono ?_; rintro y w4 ⟨S4, rfl, h4, -⟩; have T4 := Lib.hid h4; clear h4))
    | (go_at_call 16; go_must (refine R2.out.mono ?_; rintro y w3 ⟨rfl, h3, -⟩; have T3 := Lib.hid h3; clear h3)))
  go_upto_region 6 with (go_at_call 11; go_must (refine (live_open T5.out.live 5 20 HRS.out).mono ?_; rintro y w6 ⟨q6, v6, rfl, h6, ho6, -, -, -⟩; obtain ⟨A6, c6, rfl, -, -⟩ := ho6.form; have T6 := Lib.hid h6; have O6 := Lib.hid (ho6.lists (fun k => True) (fun _ _ _ => trivial) (fun _ _ => trivial)); clear h6 ho6))
  obtain ⟨b, off, Ai, ci, rfl, -, hcell, hsl⟩ := O6.out.at_ 0 (by show 0 < 1; omega)
  have hcell' : w6.cell? ⟨b, off, none⟩ = some (.slice Ai 5 ci) := hcell
  have hcv := conv_bytes hsl.sl
  have hcv' : (convert 22 9 (.slice Ai 5 ci)).run Tryd.prog w6 = .ok (.string ⟨#[97, 98, 99, 100, 101]⟩) w6 := hcv
  have HL6 := Lib.hid (lt_len T6.out)
  clear hcell hcv hsl kc
  go_wp2_with (go_at_call 15; go_must (refine HL6.out.mono ?_; rintro y w7 ⟨rfl, rfl⟩))
  go_ret
  exact ⟨rfl, T6.out.below⟩

end Go.Proofs.YthcikgbnenfjpaaDoor.pk
