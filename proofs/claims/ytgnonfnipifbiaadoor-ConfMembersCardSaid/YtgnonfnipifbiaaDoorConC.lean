/-
  What the program's package is asked for by stage 10's laws, as contracts; the law's own 'sure' out of them.
-/
import Derived.Test.YtgnonfnipifbiaaDoorRefA
namespace Go.Proofs.YtgnonfnipifbiaaDoor.pk
open Go Go.RowKit
set_option maxRecDepth 100000

structure ConC : Prop where
  cQuorum : ∀ (A : Option Addr) (m c : Nat) (zs : List Int) (A' : Option Addr) (m' c' : Nat) (ss : List Int) (w : World), Ints w (.slice A m c) zs → Ints w (.slice A' m' c') ss → m ≤ 300 → m' ≤ 300 → ∀ r, r = quorumC zs ss →
    Calls Tryd.prog 16 #[.slice A m c, .slice A' m' c'] w fun y w' => y = .returned (.bool r) ∧ Below w.heap.size w w'
  cAgreed : ∀ (A : Option Addr) (m c : Nat) (zs : List Int) (A' : Option Addr) (m' c' : Nat) (l : List (Int × Int)) (w : World), Ints w (.slice A m c) zs → Marks w (.slice A' m' c') l → m ≤ 300 → m' ≤ 300 → ∀ r, r = agreedC zs l →
    Calls Tryd.prog 17 #[.slice A m c, .slice A' m' c'] w fun y w' => y = .returned (.int .i64 r) ∧ Below w.heap.size w w'
  cHas : ∀ (A : Option Addr) (m c : Nat) (zs : List Int) (who : Int) (w : World), Ints w (.slice A m c) zs → inI who → m ≤ 300 → ∀ r, r = (mayC zs && decide (who ∈ zs)) →
    Calls Tryd.prog 12 #[.slice A m c, .int .i64 who] w fun y w' => y = .returned (.bool r) ∧ Below w.heap.size w w'
  cCheck : ∀ (A : Option Addr) (m c : Nat) (zs : List Int) (w : World), Ints w (.slice A m c) zs → m ≤ 300 → ∀ k, k = (if mayC zs then 0 else 1) →
    Calls Tryd.prog 10 #[.slice A m c] w fun y w' => y = .returned (er k) ∧ Below w.heap.size w w'
  cAdd : ∀ (A : Option Addr) (m c : Nat) (zs : List Int) (who : Int) (w : World), Ints w (.slice A m c) zs → inI who → m ≤ 300 → ∀ r, r = addC zs who →
    Calls Tryd.prog 6 #[.slice A m c, .int .i64 who] w fun y w' => ∃ A1 c1, y = .returned (.tuple #[.slice A1 r.1.length c1, er r.2]) ∧ Ints w' (.slice A1 r.1.length c1) r.1 ∧ Below w.heap.size w w'
  cRemove : ∀ (A : Option Addr) (m c : Nat) (zs : List Int) (who : Int) (w : World), Ints w (.slice A m c) zs → inI who → m ≤ 300 → ∀ r, r = remC zs who →
    Calls Tryd.prog 8 #[.slice A m c, .int .i64 who] w fun y w' => ∃ A1 c1, y = .returned (.tuple #[.slice A1 r.1.length c1, er r.2]) ∧ Ints w' (.slice A1 r.1.length c1) r.1 ∧ Below w.heap.size w w'

theorem Ints.lit {W : World} {zs : List Int} {n : Nat} {bl : Obj} {t : Nat} (hb : bl = .cells (zs.map (Value.int .i64)).toArray t (0, 0)) (hn : zs.length = n) (hm : n ≤ 9223372036854775807) (hi : ∀ z ∈ zs, inI z) : Ints (W.alloc bl) (.slice (some ⟨W.heap.size, 0, none⟩) n n) zs := by
  subst hb
  subst hn
  refine ⟨⟨by simp, some ⟨W.heap.size, 0, none⟩, zs.length, rfl, Nat.le_refl _, hm, Or.inr ⟨W.heap.size, 0, rfl, ?_, fun j u hj => ?_⟩⟩, hi⟩
  · rw [World.size_alloc]; exact Nat.lt_succ_self _
  · rw [Nat.zero_add, cell_of_row _ W.heap.size _ _ _ (0, 0) (heap_alloc_new W _)]
    simpa using hj
theorem Marks.lit {W : World} {l : List (Int × Int)} {n : Nat} {bl : Obj} {t : Nat} (cs : List Value) (hb : bl = .cells cs.toArray t (0, 0)) (hc : cs.length = l.length * 2) (he : ∀ j (h : j < l.length), cs[j * 2]? = some (.int .i64 l[j].1) ∧ cs[j * 2 + 1]? = some (.int .i64 l[j].2)) (hn : l.length = n) (hm : n ≤ 9223372036854775807) (hi : ∀ m ∈ l, inI m.1 ∧ inI m.2) : Marks (W.alloc bl) (.slice (some ⟨W.heap.size, 0, none⟩) n n) l := by
  subst hb
  subst hn
  refine ⟨⟨cs, ⟨hc, some ⟨W.heap.size, 0, none⟩, l.length, rfl, Nat.le_refl _, hm, Or.inr ⟨W.heap.size, 0, rfl, ?_, fun j u hj => ?_⟩⟩, he⟩, hi⟩
  · rw [World.size_alloc]; exact Nat.lt_succ_self _
  · rw [Nat.zero_add, cell_of_row _ W.heap.size _ _ _ (0, 0) (heap_alloc_new W _)]
    simpa using hj

theorem q31 : true = quorumC [1, 2, 3] [3, 1] := by decide
theorem q33 : false = quorumC [1, 2, 3] [3, 3] := by decide
theorem a597 : 7 = agreedC [1, 2, 3] [(1, 5), (2, 9), (3, 7)] := by decide

theorem two_allocs {W w' : World} {b1 b2 : Obj} (h : Below ((W.alloc b1).alloc b2).heap.size ((W.alloc b1).alloc b2) w') : Below W.heap.size W w' := by
  have h1 := ((Below.refl W.heap.size W).alloc (Nat.le_refl _) b1).alloc (by rw [World.size_alloc]; omega) b2
  exact h1.trans (h.mono (by simp only [World.size_alloc]; omega))
theorem sure1 (C : ConC) (W : World) (a b : Int) (ha : inI a) (hb : inI b) (r : Bool) (hr : r = quorumC [1, 2, 3] [a, b]) :
    Calls Tryd.prog 16 #[.slice (some ⟨W.heap.size, 0, none⟩) 3 3, .slice (some ⟨W.heap.size + 1, 0, none⟩) 2 2] ((W.alloc (.cells #[.int .i64 1, .int .i64 2, .int .i64 3] 3)).alloc (.cells #[.int .i64 a, .int .i64 b] 3)) fun y w' => y = .returned (.bool r) ∧ Below W.heap.size W w' := by
  have i1 : Ints (W.alloc (.cells #[.int .i64 1, .int .i64 2, .int .i64 3] 3)) (.slice (some ⟨W.heap.size, 0, none⟩) 3 3) [1, 2, 3] := Ints.lit rfl rfl (by omega) (by unfold inI; decide)
  have i2 : Ints ((W.alloc (.cells #[.int .i64 1, .int .i64 2, .int .i64 3] 3)).alloc (.cells #[.int .i64 a, .int .i64 b] 3)) (.slice (some ⟨(W.alloc (.cells #[.int .i64 1, .int .i64 2, .int .i64 3] 3)).heap.size, 0, none⟩) 2 2) [a, b] :=
    Ints.lit rfl rfl (by omega) (fun z hz => (List.mem_cons.1 hz).elim (fun e => e ▸ ha) fun hz => (List.mem_singleton.1 hz) ▸ hb)
  rw [World.size_alloc] at i2
  exact (C.cQuorum _ 3 _ _ _ 2 _ _ _ (i1.below (below_alloc _ _)) i2 (by omega) (by omega) _ hr).mono fun y w' h => ⟨h.1, two_allocs h.2⟩
theorem sure2 (C : ConC) (W : World) :
    Calls Tryd.prog 17 #[.slice (some ⟨W.heap.size, 0, none⟩) 3 3, .slice (some ⟨W.heap.size + 1, 0, none⟩) 3 3] ((W.alloc (.cells #[.int .i64 1, .int .i64 2, .int .i64 3] 3)).alloc (.cells #[.int .i64 1, .int .i64 5, .int .i64 2, .int .i64 9, .int .i64 3, .int .i64 7] 41)) fun y w' => y = .returned (.int .i64 7) ∧ Below W.heap.size W w' := by
  have i1 : Ints (W.alloc (.cells #[.int .i64 1, .int .i64 2, .int .i64 3] 3)) (.slice (some ⟨W.heap.size, 0, none⟩) 3 3) [1, 2, 3] := Ints.lit rfl rfl (by omega) (by unfold inI; decide)
  have i2 : Marks ((W.alloc (.cells #[.int .i64 1, .int .i64 2, .int .i64 3] 3)).alloc (.cells #[.int .i64 1, .int .i64 5, .int .i64 2, .int .i64 9, .int .i64 3, .int .i64 7] 41)) (.slice (some ⟨(W.alloc (.cells #[.int .i64 1, .int .i64 2, .int .i64 3] 3)).heap.size, 0, none⟩) 3 3) [(1, 5), (2, 9), (3, 7)] :=
    Marks.lit [.int .i64 1, .int .i64 5, .int .i64 2, .int .i64 9, .int .i64 3, .int .i64 7] rfl rfl (fun j hj => by
      have : j = 0 ∨ j = 1 ∨ j = 2 := by simp at hj; omega
      rcases this with rfl | rfl | rfl <;> exact ⟨rfl, rfl⟩) rfl (by omega) (by unfold inI; decide)
  rw [World.size_alloc] at i2
  exact (C.cAgreed _ 3 _ _ _ 3 _ _ _ (i1.below (below_alloc _ _)) i2 (by omega) (by omega) _ a597).mono fun y w' h => ⟨h.1, two_allocs h.2⟩

set_option maxHeartbeats 2000000 in
theorem sure_any (C : ConC) (w : World) : Calls Tryd.prog 4 #[] w fun y w' => y = .returned (.bool true) ∧ Below w.heap.size w w' := by
  have C1 := Lib.hid fun W => sure1 C W 3 1 (by unfold inI; decide) (by unfold inI; decide) _ q31
  have C2 := Lib.hid fun W => sure1 C W 3 3 (by unfold inI; decide) (by unfold inI; decide) _ q33
  have C3 := Lib.hid fun W => sure2 C W
  go_enter Tryd.func4, Tryd.ntmps4
  go_wp2_with (first
    | (go_at_call 17; go_must (refine (C3.out _).mono ?_; rintro y w3 ⟨rfl, hb3⟩; have HB3 := Lib.hid (HB2.out.trans (hb3.mono HB2.out.size)); clear hb3))
    | (go_at_call 16; have h0 := HB1.out.size; go_must (refine (C2.out _).mono ?_; rintro y w2 ⟨rfl, hb2⟩; have HB2 := Lib.hid (HB1.out.trans (hb2.mono HB1.out.size)); clear hb2 h0))
    | (go_at_call 16; go_must (refine (C1.out _).mono ?_; rintro y w1 ⟨rfl, hb1⟩; have HB1 := Lib.hid hb1; clear hb1)))
  go_ret
  exact ⟨rfl, HB3.out⟩

end Go.Proofs.YtgnonfnipifbiaaDoor.pk
