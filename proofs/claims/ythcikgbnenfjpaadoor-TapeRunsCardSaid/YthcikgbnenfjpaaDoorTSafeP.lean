/-
  What the law TapeSafe keeps beside its tape; what a disk holds behind a step that was cut short.
-/
import Derived.Test.YthcikgbnenfjpaaDoorTBack
namespace Go.Proofs.YthcikgbnenfjpaaDoor.pk
open Go Go.RowKit
set_option maxRecDepth 100000

/-- The law's row, and its area's box, beside a tape. -/
structure Fix (w0 W : World) (S : Nat → Prop) (q : Nat) (v : Value) (l : List (List UInt8)) (ba : Nat) : Prop where
  own : OwnL W w0.heap.size (fun k => k < w0.heap.size) v l
  by_ : Beside S q v
  box : W.heap[ba]? = some (.cells #[.int .i64 10, .int .i64 250] 36 (0, 0))
  bout : ¬ SQ S q ba
  bne : v.ownBlock ≠ some ba
  blow : w0.heap.size ≤ ba

section
variable {C : ConD} {w0 w w' W W' : World} {S S' : Nat → Prop} {q q' p ba : Nat} {d d' : Dk} {t : Tm} {v v' : Value} {l l' : List (List UInt8)} {x : List UInt8}

theorem Fix.blt (h : Fix w0 W S q v l ba) : ba < W.heap.size := (Array.getElem?_eq_some_iff.1 h.box).1
theorem Fix.more (h : Fix w0 W S q v l ba) (hb : Below W.heap.size W W') : Fix w0 W' S q v l ba := ⟨h.own.more hb, h.by_, (hb.block ba h.blt).trans h.box, h.bout, h.bne, h.blow⟩
theorem Fix.turn (h : Fix w0 W S q v l ba) (hl : ∀ k, SQ S q k → w0.heap.size ≤ k) (ht : Turn (SQ S q) (SQ S' q) W W') : Fix w0 W' S' q v l ba :=
  ⟨h.own.turn h.by_ hl ht, h.by_.turn h.own ht, (ht.kept.block ba h.blt h.bout).trans h.box, fun hs => by
    rcases ht.new ba hs with h1 | h1
    · exact h.bout h1
    · have := h.blt; omega, h.bne, h.blow⟩
/-- Another tape over the same disk. -/
theorem Fix.other (h : Fix w0 W S q v l ba) (hb : Below W.heap.size W W') (hq : W.heap.size ≤ q') : Fix w0 W' S q' v l ba :=
  ⟨h.own.more hb, fun k hk hs => by
    rcases hs with hs | hs
    · exact h.by_ k hk (Or.inl hs)
    · have := (h.own.lt k hk).2; omega, (hb.block ba h.blt).trans h.box, fun hs => by
    rcases hs with hs | hs
    · exact h.bout (Or.inl hs)
    · have := h.blt; omega, h.bne, h.blow⟩
theorem Fix.none_ (h : Fix w0 W S q v l ba) : Fix w0 W S q (.slice none 0 0) [] ba := ⟨OwnL.nil_ _ _ _, fun k hk => (by cases hk), h.box, h.bout, (by intro e; cases e), h.blow⟩
/-- One record more. -/
theorem Fix.push (h : Fix w0 W S q v l ba) (hs : ∀ k, SQ S q k → k < W.heap.size) (ho : OwnL W' w0.heap.size (fun k => k < w0.heap.size) v' (l ++ [x])) (hg : W.grownBy W' v.ownBlock) (hn : v'.ownBlock = v.ownBlock ∨ v'.ownBlock = some W.heap.size) : Fix w0 W' S q v' (l ++ [x]) ba :=
  ⟨ho, h.by_.grown hs hn, (hg.block ba h.blt (fun e => h.bne e.symm)).trans h.box, h.bout, fun e => by
    rcases hn with hn | hn
    · exact h.bne (hn ▸ e)
    · rw [hn] at e; injection e with e; have := h.blt; omega, h.blow⟩
theorem Fix.cells (h : Fix w0 W S q v l ba) : W.cell? ⟨ba, 0, none⟩ = some (.int .i64 10) ∧ W.cell? ⟨ba, 1, none⟩ = some (.int .i64 250) := by
  refine ⟨?_, ?_⟩
  all_goals
    rw [cell_of_row W ba _ _ _ (0, 0) h.box]
    rfl

/-- Of a disk whose power went within a step: what is told, and what is there when it is back. -/
structure Cut (d d' : Dk) (e : Nat) (at_ len : Nat) (l l' : List (List UInt8)) : Prop where
  err : e = 13
  off : d'.off = true
  few : d'.L.length < 100000
  back : ∀ keep, Rests (startD d' keep) at_ len l ∨ Rests (startD d' keep) at_ len l'
  size : ∀ keep, (startD d' keep).B.length = d.B.length

theorem put_few (k : Nat) (x : List UInt8) (d : Dk) : (putS k x d).1.L.length ≤ d.L.length + 1 := putD_lenL _ _ _
theorem sync_few (d : Dk) : (syncS d).1.L.length ≤ d.L.length := syncD_lenL _
theorem chain_few {y : Dk × Nat} {f : Dk → Dk × Nat} {n k : Nat} (hy : y.1.L.length ≤ n) (hf : ∀ d : Dk, (f d).1.L.length ≤ d.L.length + k) : (chainS y f).1.L.length ≤ n + k := by
  unfold chainS
  by_cases h : y.2 = 0
  · rw [if_pos h]; have := hf y.1; omega
  · rw [if_neg h]; omega
theorem app_few (hs : TState d t l) (b : List UInt8) : (appS d t b).1.L.length ≤ 2 := by
  have h0 : (putS (t.at_ + t.fin + 1) (appW t b) d).1.L.length ≤ 1 := by have := put_few (t.at_ + t.fin + 1) (appW t b) d; rw [hs.calm] at this; exact this
  exact chain_few (k := 0) (chain_few (k := 1) (chain_few (k := 0) h0 sync_few) (put_few _ _)) sync_few
theorem res_few (hs : TState d t l) : (resS d t).1.L.length ≤ 2 := by
  have h0 : (putS t.at_ [0] d).1.L.length ≤ 1 := by have := put_few t.at_ [0] d; rw [hs.calm] at this; exact this
  have h1 := chain_few (k := 0) h0 sync_few
  unfold resS
  omega

theorem append_cut (hs : TState d t l) (hb : t.fin + 5 + x.length ≤ t.len) (hm : x.length ≤ 1048576) :
    ((appS d t x).2 = 0 ∧ TState (appS d t x).1 (appT t x 0) (l ++ [x]) ∧ (appS d t x).1.B.length = d.B.length) ∨ Cut d (appS d t x).1 (appS d t x).2 t.at_ t.len l (l ++ [x]) := by
  rcases append_steps hs hb (by omega) with h | ⟨h1, h2, _, h4⟩
  · exact Or.inl ⟨h.1, h.2.1, h.2.2.2.1⟩
  · refine Or.inr ⟨h1, h2, by have := app_few hs x; omega, fun keep => ?_, fun keep => (h4 keep).1⟩
    have hin : t.at_ + t.len ≤ (startD (appS d t x).1 keep).B.length := by rw [(h4 keep).1]; exact hs.inside
    rcases (h4 keep).2 with h5 | h5
    · exact Or.inl ⟨rfl, rfl, hin, hs.five, h5⟩
    · exact Or.inr ⟨rfl, rfl, hin, hs.five, h5⟩
theorem reset_cut (hs : TState d t l) :
    ((resS d t).2 = 0 ∧ TState (resS d t).1 (resT t 0) [] ∧ (resS d t).1.B.length = d.B.length) ∨ Cut d (resS d t).1 (resS d t).2 t.at_ t.len l [] := by
  rcases reset_steps hs with h | ⟨h1, h2, _, h4⟩
  · exact Or.inl ⟨h.1, h.2.1, h.2.2.2.1⟩
  · refine Or.inr ⟨h1, h2, by have := res_few hs; omega, fun keep => ?_, fun keep => (h4 keep).1⟩
    have hin : t.at_ + t.len ≤ (startD (resS d t).1 keep).B.length := by rw [(h4 keep).1]; exact hs.inside
    rcases (h4 keep).2 with h5 | h5
    · exact Or.inl ⟨rfl, rfl, hin, hs.five, h5⟩
    · exact Or.inr ⟨rfl, rfl, hin, hs.five, h5⟩
end

/-- All that holds at the head of TapeSafe's loop. -/
structure SafeI (C : ConD) (w0 W : World) (S : Nat → Prop) (q p ba : Nat) (v : Value) (d : Dk) (t : Tm) (l : List (List UInt8)) : Prop where
  lt : LT C w0 W S q p d t
  st : TState d t l
  at0 : t.at_ = 10
  len : t.len = 250
  fx : Fix w0 W S q v l ba
theorem SafeI.few {C : ConD} {w0 W : World} {S : Nat → Prop} {q p ba : Nat} {v : Value} {d : Dk} {t : Tm} {l : List (List UInt8)} (h : SafeI C w0 W S q p ba v d t l) : l.length ≤ 250 := by
  have h1 := h.st.fits
  have h2 := h.st.fin
  have h3 := encL_ge l
  have h4 := h.len
  omega

theorem SafeI.more {C : ConD} {w0 W W' : World} {S : Nat → Prop} {q p ba : Nat} {v : Value} {d : Dk} {t : Tm} {l : List (List UInt8)} (h : SafeI C w0 W S q p ba v d t l) (hb : Below W.heap.size W W') : SafeI C w0 W' S q p ba v d t l :=
  ⟨h.lt.more hb, h.st, h.at0, h.len, h.fx.more hb⟩
theorem ListsT.front {w : World} {T : Nat → Prop} {A : Option Addr} {n c : Nat} {ls : List (List UInt8)} (h : ListsT w T (.slice A n c) ls) {k : Nat} (hk : k ≤ ls.length) : ListsT w T (.slice A k c) (ls.take k) := by
  obtain ⟨cs, hr, he⟩ := h
  have h1 := hr.front hk
  have hl : (ls.take k).length = k := by rw [List.length_take]; omega
  refine ⟨cs.take (k * 1), by rw [hl]; exact h1, fun j hj => ?_⟩
  rw [hl] at hj
  obtain ⟨u, hu, hs⟩ := he j (by omega)
  refine ⟨u, by rw [List.getElem?_take, if_pos (by omega)]; exact hu, ?_⟩
  rw [List.getElem_take]
  exact hs
theorem step_of (z : Int) : ∃ n : Nat, n < 6 ∧ wrap64 ((IntKind.u64.wrap z).tmod 6) = (n : Int) := by
  have h0 : 0 ≤ IntKind.u64.wrap z := by rw [IntKind.wrap_u64]; omega
  generalize IntKind.u64.wrap z = u at h0
  have h1 : u.tmod 6 = u % 6 := Int.tmod_eq_emod_of_nonneg h0
  rw [h1]
  have e1 : wrap64 (u % 6) = u % 6 := by unfold wrap64; omega
  rw [e1]
  exact ⟨(u % 6).toNat, by omega, by omega⟩
theorem arm_state {d : Dk} {t : Tm} {l : List (List UInt8)} (h : TState d t l) (n : Nat) : armE n = 0 ∧ TState (armD d n) t l ∧ (armD d n).B.length = d.B.length := by
  have e : armD d n = { d with armed := n } := by unfold armD; rw [if_neg (by omega)]
  refine ⟨by unfold armE; rw [if_neg (by omega)], ?_, (armD_len d n).1⟩
  rw [e]
  exact ⟨h.on, h.calm, h.inside, h.five, h.lies, h.fin, h.num, h.alive⟩

end Go.Proofs.YthcikgbnenfjpaaDoor.pk
