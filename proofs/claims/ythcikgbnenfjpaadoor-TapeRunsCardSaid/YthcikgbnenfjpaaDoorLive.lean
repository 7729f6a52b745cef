/-
  A disk that a law has made: what is below the law's beginning stays.
-/
import Derived.Test.YthcikgbnenfjpaaDoorConD
import Derived.Test.YthcikgbnenfjpaaDoorLit
namespace Go.Proofs.YthcikgbnenfjpaaDoor.pk
open Go Go.RowKit
set_option maxRecDepth 100000

/-- Behind w0: the disk at p is d, and all that was there at w0 is as it was. -/
structure Live (C : ConD) (w0 w : World) (S : Nat → Prop) (p : Nat) (d : Dk) : Prop where
  dk : C.DK w S p d
  low : ∀ k, S k → w0.heap.size ≤ k
  below : Below w0.heap.size w0 w

variable {C : ConD} {w0 w w' : World} {S S' : Nat → Prop} {p : Nat} {d : Dk}

theorem Live.size (h : Live C w0 w S p d) : w0.heap.size ≤ w.heap.size := h.below.size
/-- What makes memory alone keeps it. -/
theorem Live.more (h : Live C w0 w S p d) (hb : Below w.heap.size w w') : Live C w0 w' S p d :=
  ⟨C.frame h.dk fun k hk => hb.block k (C.foot h.dk k hk), h.low, h.below.trans (hb.mono h.size)⟩
theorem Live.drew (h : Live C w0 w S p d) : Live C w0 w.drew S p d := h.more (Below.refl _ _).drew
theorem Live.alloc (h : Live C w0 w S p d) (o : Obj) : Live C w0 (w.alloc o) S p d := h.more ((Below.refl _ _).alloc (Nat.le_refl _) o)
theorem Live.turn {d' : Dk} (h : Live C w0 w S p d) (hd : C.DK w' S' p d') (ht : Turn S S' w w') : Live C w0 w' S' p d' :=
  ⟨hd, ht.low h.low h.size, h.below.trans (ht.kept.below h.low h.size)⟩
/-- Another one's turn: what they share stays. -/
theorem Live.other {T T' : Nat → Prop} {q : Nat} {e e' : Dk} (h : Live C w0 w S p d) (hq : C.DK w T q e) (hq' : C.DK w' T' q e') (ht : Turn T T' w w') (hST : ∀ k, S k → T k → C.R k) (hT : ∀ k, T k → w0.heap.size ≤ k) :
    Live C w0 w' S p d ∧ ∀ k, S k → T' k → C.R k :=
  ⟨⟨C.frame h.dk fun k hk => by
      by_cases hr : C.R k
      · exact (C.pin hq' k hr).2.trans (C.pin hq k hr).2.symm
      · exact ht.kept.block k (C.foot h.dk k hk) (fun hk' => hr (hST k hk hk')), h.low, h.below.trans (ht.kept.below hT h.size)⟩, fun k hk hk' => by
    rcases ht.new k hk' with h1 | h1
    · exact hST k hk h1
    · have := C.foot h.dk k hk
      omega⟩
theorem Live.arg (h : Live C w0 w S p d) {v : Value} {bs : List UInt8} (ha : Sl w0 w0.heap.size v bs) : SlT w (Av w S) v bs := SlT.of_low (ha.below h.below) h.low h.size
theorem Live.argRow (h : Live C w0 w S p d) {v : Value} {sz n : Nat} {cs : List Value} (ha : RowT w0 (fun k => k < w0.heap.size) sz v n cs) : RowT w (Av w S) sz v n cs :=
  (ha.kept fun k hk _ => h.below.block k hk).mono fun k hk => ⟨Nat.lt_of_lt_of_le hk h.size, fun hs => by have := h.low k hs; omega⟩
/-- Bytes that the law has just written out. -/
theorem Live.lit (h : Live C w0 w S p d) (t : Nat) (bs : List UInt8) (hl : bs.length ≤ 9223372036854775807) (fz : Nat × Nat := (0, 0)) :
    SlT (w.alloc (.cells (bs.map fun b => Value.int .u8 (b.toNat : Int)).toArray t fz)) (Av (w.alloc (.cells (bs.map fun b => Value.int .u8 (b.toNat : Int)).toArray t fz)) S) (.slice (some ⟨w.heap.size, 0, none⟩) bs.length bs.length) bs := by
  have hs : ∀ k, S k → k < w.heap.size := C.foot h.dk
  refine ⟨some ⟨w.heap.size, 0, none⟩, bs.length, rfl, Nat.le_refl _, hl, Or.inr ⟨w.heap.size, 0, rfl, ⟨by rw [World.size_alloc]; omega, fun hk => by have := hs _ hk; omega⟩, fun j hj => ?_⟩⟩
  rw [cell_of_row _ w.heap.size _ _ _ fz (heap_alloc_new w _)]
  simp [List.getD, List.getElem?_eq_getElem hj]

/-- Elements that the law has just written out. -/
theorem Live.litRow (h : Live C w0 w S p d) (t sz n : Nat) (cs : List Value) (hc : cs.length = n * sz) (hl : n ≤ 9223372036854775807) (fz : Nat × Nat := (0, 0)) :
    RowT (w.alloc (.cells cs.toArray t fz)) (Av (w.alloc (.cells cs.toArray t fz)) S) sz (.slice (some ⟨w.heap.size, 0, none⟩) n n) n cs := by
  have hs : ∀ k, S k → k < w.heap.size := C.foot h.dk
  refine ⟨hc, some ⟨w.heap.size, 0, none⟩, n, rfl, Nat.le_refl _, hl, Or.inr ⟨w.heap.size, 0, rfl, ⟨by rw [World.size_alloc]; omega, fun hk => by have := hs _ hk; omega⟩, fun j u hj => ?_⟩⟩
  rw [cell_of_row _ w.heap.size _ _ _ fz (heap_alloc_new w _)]
  simpa using hj

theorem live_new {Q : ConD → Prop} (B : ConB Q C) (w0 : World) (n : Nat) (h1 : 1 ≤ n) (h2 : n ≤ 4194304) (N : Int) (hN : N = (n : Int)) :
    Calls Tryd.prog 8 #[.int .i64 N] w0 fun x w' => ∃ p S, x = .returned (.tuple #[.pointer (some ⟨p, 0, none⟩), .nilIface]) ∧ Live C w0 w' S p (newD n) := by
  subst hN
  exact (B.cNew n w0 h1 h2).mono fun _ _ ⟨p, S, hx, hd, hS, hb⟩ => ⟨p, S, hx, hd, hS, hb⟩
theorem live_newB {Q : ConD → Prop} (B : ConB Q C) {w0 w : World} (hb : Below w0.heap.size w0 w) (n : Nat) (h1 : 1 ≤ n) (h2 : n ≤ 4194304) (N : Int) (hN : N = (n : Int)) :
    Calls Tryd.prog 8 #[.int .i64 N] w fun x w' => ∃ p S, x = .returned (.tuple #[.pointer (some ⟨p, 0, none⟩), .nilIface]) ∧ Live C w0 w' S p (newD n) := by
  subst hN
  exact (B.cNew n w h1 h2).mono fun _ _ ⟨p, S, hx, hd, hS, hb'⟩ => ⟨p, S, hx, hd, fun k hk => Nat.le_trans hb.size (hS k hk), hb.trans (hb'.mono hb.size)⟩
theorem live_write (h : Live C w0 w S p d) (at_ : Int) (A : Option Addr) (n c : Nat) (x : List UInt8) (ha : inI at_) (hl : d.L.length < 100000) (hx : SlT w (Av w S) (.slice A n c) x) :
    Calls Tryd.prog 9 #[.pointer (some ⟨p, 0, none⟩), .int .i64 at_, .slice A n c] w fun r w' => ∃ S', r = .returned (er (putE d at_ x)) ∧ Live C w0 w' S' p (putD d at_ x) ∧ Turn S S' w w' :=
  (C.cWrite w S p d at_ A n c x h.dk ha hl hx).mono fun _ _ ⟨S', hr, hd, ht⟩ => ⟨S', hr, h.turn hd ht, ht⟩
theorem live_sync (h : Live C w0 w S p d) : Calls Tryd.prog 10 #[.pointer (some ⟨p, 0, none⟩)] w fun r w' => ∃ S', r = .returned (er (syncE d)) ∧ Live C w0 w' S' p (syncD d) ∧ Turn S S' w w' :=
  (C.cSync w S p d h.dk).mono fun _ _ ⟨S', hr, hd, ht⟩ => ⟨S', hr, h.turn hd ht, ht⟩
theorem live_start (h : Live C w0 w S p d) (A : Option Addr) (n c : Nat) (keep : List Int) (hl : d.L.length < 100000) (hk : IntsT w (Av w S) (.slice A n c) keep) (hi : ∀ z ∈ keep, inI z) :
    Calls Tryd.prog 24 #[.pointer (some ⟨p, 0, none⟩), .slice A n c] w fun r w' => ∃ S', r = .returned (.tuple #[]) ∧ Live C w0 w' S' p (startD d keep) ∧ Turn S S' w w' :=
  (C.cStart w S p d A n c keep h.dk hl hk hi).mono fun _ _ ⟨S', hr, hd, ht⟩ => ⟨S', hr, h.turn hd ht, ht⟩
theorem live_read (h : Live C w0 w S p d) (at_ n : Int) (ha : inI at_) (hn : inI n) :
    Calls Tryd.prog 21 #[.pointer (some ⟨p, 0, none⟩), .int .i64 at_, .int .i64 n] w fun x w' => ∃ v, x = .returned (.tuple #[v, er (badE d at_ n)]) ∧ SlT w' (Av w' S) v (readB d at_ n) ∧ Live C w0 w' S p d ∧ Below w.heap.size w w' :=
  (C.cRead w S p d at_ n h.dk ha hn).mono fun _ _ ⟨v, hr, hs, hb⟩ => ⟨v, hr, hs.mono fun k hk => ⟨hk.2, fun hk' => by have := C.foot h.dk k hk'; omega⟩, h.more hb, hb⟩

end Go.Proofs.YthcikgbnenfjpaaDoor.pk
