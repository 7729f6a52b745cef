/-
  What the program's package is asked for by stage 12's laws, as contracts; the law's own 'sure' out of them.
-/
import Derived.Test.YtfdccdjfbdmblaaPureK
import Derived.Deep.QuietTactic
import Derived.BigQuiet
import Derived.IntWalk
import Derived.Outline
import Derived.RegionTactic
import Derived.Lib.SlBytesConst
import Derived.Deep.CutBlock
namespace Go.Proofs.Ytfdccdjfbdmblaa.pk
open Go Go.RowKit
set_option maxRecDepth 100000

structure ConK : Prop where
  cCut : ∀ (A : Option Addr) (m c : Nat) (t : List UInt8) (off size : Int) (w : World), Bys w (.slice A m c) t → m ≤ 100000 → inI off → inI size → ∀ r, r = cutK t off size →
    Calls Try.prog 10 #[.slice A m c, .int .i64 off, .int .i64 size] w fun y w' => ∃ A1 c1, y = .returned (.tuple #[.slice A1 r.1.length c1, .bool r.2.1, er r.2.2]) ∧ Bys w' (.slice A1 r.1.length c1) r.1 ∧ Below w.heap.size w w'
  cPieces : ∀ (A : Option Addr) (m c : Nat) (t : List UInt8) (size : Int) (w : World), Bys w (.slice A m c) t → m ≤ 140737488355328 → inI size → ∀ r, r = pcsK t size →
    Calls Try.prog 11 #[.slice A m c, .int .i64 size] w fun y w' => y = .returned (.tuple #[.int .i64 r.1, er r.2]) ∧ Below w.heap.size w w'
  cPut : ∀ (key0 : Int) (A : Option Addr) (m c : Nat) (h : List UInt8) (key off : Int) (A' : Option Addr) (m' c' : Nat) (p : List UInt8) (last : Bool) (w : World), Bys w (.slice A m c) h → Bys w (.slice A' m' c') p → m ≤ 1048576 → m' ≤ 10000 → inI key0 → inI key → inI off → ∀ r, r = putK key0 h key off p last →
    Calls Try.prog 7 #[.agg #[.int .i64 key0, .slice A m c], .int .i64 key, .int .i64 off, .slice A' m' c', .bool last] w fun y w' => ∃ A1 c1 A2 c2, y = .returned (.tuple #[.agg #[.int .i64 r.key, .slice A1 r.hav.length c1], .slice A2 r.txt.length c2, .int .i64 r.n, .bool r.ok]) ∧
      SlT w' (fun q => w.heap.size ≤ q ∧ q < w'.heap.size) (.slice A1 r.hav.length c1) r.hav ∧ Bys w' (.slice A2 r.txt.length c2) r.txt ∧ Below w.heap.size w w'

theorem Bys.lit {W : World} {bs : List UInt8} {n : Nat} {bl : Obj} {t : Nat} {fz : Nat × Nat} (hb : bl = .cells (bs.map fun b => Value.int .u8 (b.toNat : Int)).toArray t fz) (hn : bs.length = n) (hm : n ≤ 9223372036854775807) : Bys (W.alloc bl) (.slice (some ⟨W.heap.size, 0, none⟩) n n) bs := by
  subst hb
  subst hn
  refine ⟨some ⟨W.heap.size, 0, none⟩, bs.length, rfl, Nat.le_refl _, hm, Or.inr ⟨W.heap.size, 0, rfl, ?_, fun j hj => ?_⟩⟩
  · rw [World.size_alloc]; exact Nat.lt_succ_self _
  · rw [Nat.zero_add, cell_of_row _ W.heap.size _ _ _ fz (heap_alloc_new W _)]
    simp [List.getD, List.getElem?_eq_getElem hj]

theorem cut_ex : ([99, 100], false, 0) = cutK [97, 98, 99, 100, 101] 2 2 := by decide
theorem put_ex : (⟨1, [97, 98], [], 2, false⟩ : PutR) = putK 0 [] 1 0 [97, 98] false := rfl

theorem sureK1 (C : ConK) (W : World) (fz : Nat × Nat) :
    Calls Try.prog 10 #[.slice (some ⟨W.heap.size, 0, none⟩) 5 5, .int .i64 2, .int .i64 2] (W.alloc (.cells #[.int .u8 97, .int .u8 98, .int .u8 99, .int .u8 100, .int .u8 101] 5 fz)) fun y w' => ∃ A1 c1, y = .returned (.tuple #[.slice A1 2 c1, .bool false, .nilIface]) ∧ Bys w' (.slice A1 2 c1) [99, 100] ∧ Below W.heap.size W w' := by
  have i1 : Bys (W.alloc (.cells #[.int .u8 97, .int .u8 98, .int .u8 99, .int .u8 100, .int .u8 101] 5 fz)) (.slice (some ⟨W.heap.size, 0, none⟩) 5 5) [97, 98, 99, 100, 101] := Bys.lit rfl rfl (by omega)
  refine (C.cCut _ 5 _ _ 2 2 _ i1 (by omega) (by unfold inI; decide) (by unfold inI; decide) _ cut_ex).mono ?_
  rintro y w' ⟨A1, c1, rfl, h1, h2⟩
  exact ⟨A1, c1, rfl, h1, (below_alloc W _).trans (h2.mono (by rw [World.size_alloc]; omega))⟩
theorem sureK2 (C : ConK) (W : World) (fz : Nat × Nat) :
    Calls Try.prog 7 #[.agg #[.int .i64 0, .slice none 0 0], .int .i64 1, .int .i64 0, .slice (some ⟨W.heap.size, 0, none⟩) 2 2, .bool false] (W.alloc (.cells #[.int .u8 97, .int .u8 98] 5 fz)) fun y w' => ∃ A1 c1 A2 c2, y = .returned (.tuple #[.agg #[.int .i64 1, .slice A1 2 c1], .slice A2 0 c2, .int .i64 2, .bool false]) ∧ Bys w' (.slice A1 2 c1) [97, 98] ∧ Below W.heap.size W w' := by
  have i1 : Bys (W.alloc (.cells #[.int .u8 97, .int .u8 98] 5 fz)) (.slice (some ⟨W.heap.size, 0, none⟩) 2 2) [97, 98] := Bys.lit rfl rfl (by omega)
  refine (C.cPut 0 _ 0 0 [] 1 0 _ 2 _ _ false _ (Bys.nil_ _) i1 (by omega) (by omega) (by unfold inI; decide) (by unfold inI; decide) (by unfold inI; decide) _ put_ex).mono ?_
  rintro y w' ⟨A1, c1, A2, c2, rfl, h1, _, h2⟩
  exact ⟨A1, c1, A2, c2, rfl, h1.mono fun _ hq => hq.2, (below_alloc W _).trans (h2.mono (by rw [World.size_alloc]; omega))⟩

set_option maxHeartbeats 2000000 in
theorem sureK (C : ConK) (w : World) : Calls Try.prog 9 #[] w fun y w' => y = .returned (.bool true) ∧ Below w.heap.size w w' := by
  have kc := fun (w : World) (C : Array Value) (n c : Nat) => Lib.run_convert_bytes_const (P := Try.prog) w 23 5 C n c Try.underlying23 Try.underlying5
  have C1 := Lib.hid fun W fz => sureK1 C W fz
  have C2 := Lib.hid fun W fz => sureK2 C W fz
  go_enter Try.func9, Try.ntmps9
  go_wp2_with (first
    | (go_at_call 10; go_must (refine (C1.out _ _).mono ?_; rintro y w1 ⟨A1, c1, rfl, h1, hb1⟩; have HB1 := Lib.hid hb1; have H1 := Lib.hid h1; clear hb1 h1))
    | (go_at_call 7; go_must (refine (C2.out _ _).mono ?_; rintro y w2 ⟨A2, c2, A3, c3, rfl, h2, hb2⟩; have HB2 := Lib.hid (HB1.out.trans (hb2.mono HB1.out.size)); have v1 := fun bl => conv_bytes ((((H1.out.below hb2).below (below_alloc w2 bl))).sl_); have v2 := fun bl => conv_bytes ((h2.below (below_alloc w2 bl)).sl_); clear hb2 h2)))
  go_ret
  exact ⟨rfl, HB2.out.alloc HB2.out.size _⟩

end Go.Proofs.Ytfdccdjfbdmblaa.pk
