/-
  The law PackInts' own walk: the number that any bytes begin with is the document's, or the error is.
-/
import Derived.Test.YteblpfnmcbehmaaDoorRef5
import Derived.Test.YteblpfnmcbehmaaDoorSure
import Derived.Deep.RegionHeld3
import Derived.Lib.QuietBelow
import Derived.BigQuiet
namespace Go.Proofs.YteblpfnmcbehmaaDoor.pk
open Go Go.RowKit
set_option maxRecDepth 100000

set_option maxHeartbeats 2000000 in
theorem ints_true (A : Option Addr) (n c : Nat) (bs : List UInt8) (w : World) (hs : Std w) (h : Sl w w.heap.size (.slice A n c) bs) (hl : bs.length ≤ 140737488355328) :
    Calls Tryd.prog 6 #[.slice A n c] w fun x w' => x = .returned (.bool true) ∧ Below w.heap.size w w' := by
  have hG := hs.size
  have HS := Lib.hid hs
  have H := Lib.hid h
  obtain ⟨L, k, m, hsd⟩ : ∃ L k m, rInt (bs, 0) = ((L, k), m) := ⟨_, _, _, rfl⟩
  have HSD := Lib.hid hsd
  clear hs h hsd
  go_enter Tryd.func6, Tryd.ntmps6
  go_wp2_with (first
    | (go_at_call 13; go_must (refine (Read_any A n c bs _ _ H.out hl).mono ?_; rintro x w5 ⟨p, v5, rfl, hp5, h5, hb5⟩; have H5 := Lib.hid h5; have HB5 := Lib.hid hb5; have HS5 := Lib.hid (HS.out.below hG hb5); clear h5 hb5))
    | (go_at_call 15; go_must (refine (Int_any p (bs, 0) _ _ HS5.out H5.out).mono ?_; rw [HSD.out]; rintro x w6 ⟨v6, rfl, h6, hg6⟩; have H6 := Lib.hid h6; have HB6 := Lib.hid (HB5.out.grown hg6 HB5.out.size (fun k hk => by injection hk with hk; omega)); have hz6 := HB6.out.size; clear h6 hg6))
    | (go_at_call 17; go_must (refine (ReadInt_any A n c 0 bs _ hz6 (H.out.below HB6.out)).mono ?_; rw [HSD.out]; rintro x w7 ⟨A7, c7, rfl, h7, hb7⟩; have H7 := Lib.hid h7; have HB7 := Lib.hid hb7; clear h7 hb7)))
  obtain ⟨w8, hw8⟩ : ∃ w8, w8 = w7.alloc (Obj.cells #[Value.slice A7 L.length c7, Value.int IntKind.i64 (k : Int)] 36) := ⟨_, rfl⟩
  rw [← hw8]
  have q0 : w8.cell? ⟨w7.heap.size, 0, none⟩ = some (.slice A7 L.length c7) := by rw [hw8]; simp
  have q1 : w8.cell? ⟨w7.heap.size, 1, none⟩ = some (.int .i64 (k : Int)) := by rw [hw8]; simp
  have hb78 : Below w7.heap.size w7 w8 := by rw [hw8]; exact (Below.refl _ _).alloc (Nat.le_refl _) _
  have hb68 : Below w6.heap.size w6 w8 := HB7.out.trans (hb78.mono HB7.out.size)
  have H8 := Lib.hid (H6.out.below hb68 H6.out.lt)
  have hbw8 : Below w.heap.size w w8 := HB6.out.trans (hb68.mono hz6)
  have HBW8 := Lib.hid hbw8
  have HS8 := Lib.hid (HS.out.below hG hbw8)
  have hlow : 6 ≤ w8.heap.size := Nat.le_trans hG hbw8.size
  have hz8 := hbw8.size
  clear hw8 hb78 hb68 hbw8
  have k0 := cell_regrown q0
  have k1 := cell_regrown q1
  have cS : ∀ d os, Calls Tryd.prog 23 #[] (Sort.grow (redrawn w8 d) os) fun e w'' => e = .returned (.bool true) ∧ ∃ p : Regrown, w'' = Sort.grow (redrawn w8 p.d) p.os :=
    fun d os => Calls.regrown_of (sure_any _ (HS8.out.below hlow (below_regrown w8 d os)))
  have cN : ∀ d os, Calls Tryd.prog 19 #[ev (dn (L, k))] (Sort.grow (redrawn w8 d) os) fun e w'' => e = .returned (.int .i64 (dn (L, k) : Int)) ∧ ∃ p : Regrown, w'' = Sort.grow (redrawn w8 p.d) p.os :=
    fun d os => Calls.regrown_of (num_any _ _ (HS8.out.below hlow (below_regrown w8 d os)))
  have cL : ∀ d os, Calls Tryd.prog 22 #[.pointer (some ⟨p, 0, none⟩)] (Sort.grow (redrawn w8 d) os) fun e w'' => e = .returned (.int .i64 (L.length : Int)) ∧ ∃ p : Regrown, w'' = Sort.grow (redrawn w8 p.d) p.os :=
    fun d os => Calls.regrown_of ((Left_any p k v6 L _ (H8.out.below (below_regrown w8 d os) H8.out.lt)).mono (fun _ _ ⟨he, hw⟩ => ⟨he, by subst hw; exact Below.refl _ _⟩))
  have cD : ∀ d os, Calls Tryd.prog 20 #[.pointer (some ⟨p, 0, none⟩)] (Sort.grow (redrawn w8 d) os) fun e w'' => e = .returned (ev (dn (L, k))) ∧ ∃ p : Regrown, w'' = Sort.grow (redrawn w8 p.d) p.os :=
    fun d os => Calls.regrown_of ((Done_any p (L, k) v6 _ (H8.out.below (below_regrown w8 d os) H8.out.lt)).mono (fun _ _ ⟨he, hw⟩ => ⟨he, by subst hw; exact Below.refl _ _⟩))
  have cR : ∀ d os, Calls Tryd.prog 21 #[.agg #[.slice A7 L.length c7, .int .i64 (k : Int)]] (Sort.grow (redrawn w8 d) os) fun e w'' => e = .returned (.int .i64 (dn (L, k) : Int)) ∧ ∃ p : Regrown, w'' = Sort.grow (redrawn w8 p.d) p.os :=
    fun d os => Calls.regrown_of (RefDone_dn A7 c7 (L, k) _)
  clear q0 q1 hlow
  refine wp_region_quiet_below (by kernel_rfl) (by kernel_rfl) ?_
  repeat (go_big_quiet_step (first | exact cS _ _ | exact cN _ _ | exact cL _ _ | exact cD _ _ | exact cR _ _))
  refine wpQuiet_nil ?_
  intro _ hw'
  obtain ⟨⟨dq, osq⟩, hw''⟩ := hw'
  subst hw''
  go_wp2
  go_ret
  exact ⟨rfl, HBW8.out.trans ((below_regrown w8 dq osq).mono hz8)⟩

end Go.Proofs.YteblpfnmcbehmaaDoor.pk
