/-
  A tape that a law has made: what its calls do, in the words of its records.
-/
import Derived.Test.YthcikgbnenfjpaaDoorTapH
import Derived.Test.YthcikgbnenfjpaaDoorConE
namespace Go.Proofs.YthcikgbnenfjpaaDoor.pk
open Go Go.RowKit
set_option maxRecDepth 100000

/-- Behind w0: a tape at q over the disk at p. -/
structure LT (C : ConD) (w0 w : World) (S : Nat → Prop) (q p : Nat) (d : Dk) (t : Tm) : Prop where
  tp : Tp C w S q p d t
  low : ∀ k, S k → w0.heap.size ≤ k
  lowq : w0.heap.size ≤ q
  below : Below w0.heap.size w0 w

section
variable {C : ConD} {w0 w w' : World} {S S' : Nat → Prop} {q p : Nat} {d d' : Dk} {t t' : Tm} {l : List (List UInt8)} {at_ len : Nat}

theorem LT.size (h : LT C w0 w S q p d t) : w0.heap.size ≤ w.heap.size := h.below.size
theorem LT.live (h : LT C w0 w S q p d t) : Live C w0 w S p d := ⟨h.tp.dk, h.low, h.below⟩
theorem LT.more (h : LT C w0 w S q p d t) (hb : Below w.heap.size w w') : LT C w0 w' S q p d t := ⟨h.tp.more hb, h.low, h.lowq, h.below.trans (hb.mono h.size)⟩
theorem sq_low (hS : ∀ k, S k → w0.heap.size ≤ k) (hq : w0.heap.size ≤ q) : ∀ k, SQ S q k → w0.heap.size ≤ k := fun k hk => by
  rcases hk with hk | hk
  · exact hS k hk
  · rw [hk]; exact hq
theorem LT.turn (h : LT C w0 w S q p d t) (hd : Tp C w' S' q p d' t') (ht : Turn (SQ S q) (SQ S' q) w w') : LT C w0 w' S' q p d' t' :=
  ⟨hd, fun k hk => ht.low (sq_low h.low h.lowq) h.size k (Or.inl hk), h.lowq, h.below.trans (ht.kept.below (sq_low h.low h.lowq) h.size)⟩
/-- What the disk alone does. -/
theorem LT.disk (h : LT C w0 w S q p d t) (hd : C.DK w' S' p d') (ht : Turn S S' w w') (hl : d'.B.length = d.B.length) : LT C w0 w' S' q p d' t :=
  ⟨h.tp.turn hd ht hl, ht.low h.low h.size, h.lowq, h.below.trans (ht.kept.below h.low h.size)⟩
theorem LT.arg (h : LT C w0 w S q p d t) {v : Value} {bs : List UInt8} (ha : SlT w (fun k => k < w0.heap.size) v bs) : SlT w (Av w (SQ S q)) v bs :=
  ha.mono fun k hk => ⟨Nat.lt_of_lt_of_le hk h.size, fun hs => by have := sq_low h.low h.lowq k hs; omega⟩

/-- Bytes that the law has just written out. -/
theorem LT.lit (h : LT C w0 w S q p d t) (ty : Nat) (bs : List UInt8) (hl : bs.length ≤ 9223372036854775807) (fz : Nat × Nat := (0, 0)) :
    SlT (w.alloc (.cells (bs.map fun b => Value.int .u8 (b.toNat : Int)).toArray ty fz)) (Av (w.alloc (.cells (bs.map fun b => Value.int .u8 (b.toNat : Int)).toArray ty fz)) (SQ S q)) (.slice (some ⟨w.heap.size, 0, none⟩) bs.length bs.length) bs := by
  have hs : ∀ k, SQ S q k → k < w.heap.size := fun k hk => by
    rcases hk with hk | hk
    · exact C.foot h.tp.dk k hk
    · rw [hk]; exact h.tp.box.lt
  refine ⟨some ⟨w.heap.size, 0, none⟩, bs.length, rfl, Nat.le_refl _, hl, Or.inr ⟨w.heap.size, 0, rfl, ⟨by rw [World.size_alloc]; omega, fun hk => by have := hs _ hk; omega⟩, fun j hj => ?_⟩⟩
  rw [cell_of_row _ w.heap.size _ _ _ fz (heap_alloc_new w _)]
  simp [List.getD, List.getElem?_eq_getElem hj]

theorem encL_ge (l : List (List UInt8)) : l.length ≤ (encL l).length := by
  induction l with
  | nil => simp
  | cons b l ih => rw [encL_cons, List.length_append, enc1_len, List.length_cons]; omega
theorem TState.fits (h : TState d t l) : t.fin ≤ t.len := by
  rw [h.fin]
  have := h.lies.fits
  rwa [area_len h.inside] at this
/-- A disk that is at rest holds these records in an area. -/
structure Rests (d : Dk) (at_ len : Nat) (l : List (List UInt8)) : Prop where
  on : d.off = false
  calm : d.L = []
  inside : at_ + len ≤ d.B.length
  five : 5 ≤ len
  lies : Lies (areaT d.B at_ len) l
theorem Rests.state (h : Rests d at_ len l) : TState d (openT at_ len l) l := ⟨h.on, h.calm, h.inside, h.five, h.lies, rfl, rfl, rfl⟩
theorem Rests.read (h : Rests d at_ len l) : badE d at_ len = 0 ∧ readB d at_ len = areaT d.B at_ len := by
  have h1 : badE d at_ len = 0 := by
    unfold badE
    have := h.inside
    rw [if_pos ⟨by omega, by omega, by omega, by omega⟩, h.on]
    rfl
  refine ⟨h1, ?_⟩
  unfold readB Dk.now
  rw [if_pos h1, h.calm]
  rfl
theorem TState.rests (h : TState d t l) : Rests d t.at_ t.len l := ⟨h.on, h.calm, h.inside, h.five, h.lies⟩

theorem live_open (h : Live C w0 w S p d) (at_ len : Nat) (hr : Rests d at_ len l) :
    Calls Tryd.prog 11 #[.pointer (some ⟨p, 0, none⟩), .agg #[.int .i64 (at_ : Int), .int .i64 (len : Int)]] w fun y w' => ∃ q v, y = .returned (.tuple #[.pointer (some ⟨q, 0, none⟩), v, .nilIface]) ∧ LT C w0 w' S q p d (openT at_ len l) ∧
      OwnL w' w.heap.size (fun k => w.heap.size ≤ k) v l ∧ w.heap.size ≤ q ∧ v.ownBlock ≠ some q ∧ Below w.heap.size w w' := by
  have hB := (C.ok h.dk).2.2
  have hin := hr.inside
  have h5 := hr.five
  obtain ⟨h1, h2⟩ := hr.read
  refine (Open_yes h.dk at_ len (by unfold inI; omega) (by unfold inI; omega) h5 h1 l (encL l).length (by rw [h2]; exact readT_lies hr.lies)).mono fun y w' ⟨q, v, hy, hbx, ho, hq, hvq, hb⟩ => ⟨q, v, hy, ?_, ho, hq, hvq, hb⟩
  have hn : ¬ S q := fun hs => by have := C.foot h.dk q hs; omega
  exact ⟨⟨C.frame h.dk fun k hk => hb.block k (C.foot h.dk k hk), hbx, hn, hin, h5, hr.state.fits, encL_ge l⟩, h.low, by have := h.size; omega, h.below.trans (hb.mono h.size)⟩

/-- Append, of a tape whose records are known: all, or the power goes. -/
theorem lt_append (h : LT C w0 w S q p d t) (hs : TState d t l) (A : Option Addr) (m c : Nat) (b : List UInt8) (hm : b.length ≤ 1048576) (hr : t.fin + 5 + b.length ≤ t.len) (hx : SlT w (fun k => k < w0.heap.size) (.slice A m c) b) :
    Calls Tryd.prog 18 #[.pointer (some ⟨q, 0, none⟩), .slice A m c] w fun r w' => ∃ S', r = .returned (er (appS d t b).2) ∧ LT C w0 w' S' q p (appS d t b).1 (appT t b (appS d t b).2) ∧ Turn (SQ S q) (SQ S' q) w w' := by
  obtain ⟨hm', -, -⟩ := hx.sl.len
  subst hm'
  exact (Append_go h.tp hs.alive (by rw [hs.calm]; exact (by decide : 0 < 99990)) A c b hm hr (h.arg hx)).mono fun _ _ ⟨S', hy, hT, hTu⟩ => ⟨S', hy, h.turn hT hTu, hTu⟩
theorem lt_append_new (h : LT C w0 w S q p d t) (hs : TState d t l) (A : Option Addr) (m c : Nat) (b : List UInt8) (hm : b.length ≤ 1048576) (hr : t.fin + 5 + b.length ≤ t.len) (hx : SlT w (Av w (SQ S q)) (.slice A m c) b) :
    Calls Tryd.prog 18 #[.pointer (some ⟨q, 0, none⟩), .slice A m c] w fun r w' => ∃ S', r = .returned (er (appS d t b).2) ∧ LT C w0 w' S' q p (appS d t b).1 (appT t b (appS d t b).2) ∧ Turn (SQ S q) (SQ S' q) w w' := by
  obtain ⟨hm', -, -⟩ := hx.sl.len
  subst hm'
  exact (Append_go h.tp hs.alive (by rw [hs.calm]; exact (by decide : 0 < 99990)) A c b hm hr hx).mono fun _ _ ⟨S', hy, hT, hTu⟩ => ⟨S', hy, h.turn hT hTu, hTu⟩
theorem lt_full (h : LT C w0 w S q p d t) (hs : TState d t l) (A : Option Addr) (m c : Nat) (hm : m ≤ 1048576) (hr : t.len < t.fin + 5 + m) :
    Calls Tryd.prog 18 #[.pointer (some ⟨q, 0, none⟩), .slice A m c] w fun r w' => r = .returned (er 10) ∧ LT C w0 w' S q p d t ∧ Below w.heap.size w w' :=
  (Append_full h.tp hs.alive A m c hm (by unfold roomZ; split <;> omega)).mono fun _ _ ⟨hy, hb⟩ => ⟨hy, h.more hb, hb⟩
theorem lt_reset (h : LT C w0 w S q p d t) (hs : TState d t l) :
    Calls Tryd.prog 19 #[.pointer (some ⟨q, 0, none⟩)] w fun r w' => ∃ S', r = .returned (er (resS d t).2) ∧ LT C w0 w' S' q p (resS d t).1 (resT t (resS d t).2) ∧ Turn (SQ S q) (SQ S' q) w w' :=
  (Reset_go h.tp hs.alive (by rw [hs.calm]; exact (by decide : 0 < 99990))).mono fun _ _ ⟨S', hy, hT, hTu⟩ => ⟨S', hy, h.turn hT hTu, hTu⟩
theorem lt_room (h : LT C w0 w S q p d t) : Calls Tryd.prog 16 #[.pointer (some ⟨q, 0, none⟩)] w fun x w' => x = .returned (.int .i64 (roomZ ((t.len : Int) - t.fin))) ∧ LT C w0 w' S q p d t ∧ Below w.heap.size w w' :=
  (Room_any h.tp.box (by have := h.tp.sizes; omega) (by have := h.tp.sizes; have := h.tp.fin; omega)).mono fun _ _ ⟨hy, hb⟩ => ⟨hy, h.more hb, hb⟩
theorem lt_len (h : LT C w0 w S q p d t) : Calls Tryd.prog 15 #[.pointer (some ⟨q, 0, none⟩)] w fun x w' => x = .returned (.int .i64 (t.n : Int)) ∧ w = w' := Len_any h.tp.box

/-- Not armed: all goes well. -/
theorem append_calm (hs : TState d t l) (ha : d.armed < 0) {b : List UInt8} (hb : t.fin + 5 + b.length ≤ t.len) (hm : b.length ≤ 1048576) :
    (appS d t b).2 = 0 ∧ TState (appS d t b).1 (appT t b 0) (l ++ [b]) ∧ areaT (appS d t b).1.B t.at_ t.len = put1 (put1 (areaT d.B t.at_ t.len) (t.fin + 1) (appW t b)) t.fin [1] ∧ (appS d t b).1.B.length = d.B.length ∧ (∀ j, ¬ (t.at_ ≤ j ∧ j < t.at_ + t.len) → (appS d t b).1.B.getD j 0 = d.B.getD j 0) := by
  rcases append_steps hs hb (by omega) with h | h
  · exact h
  · have := h.2.2.1; omega
theorem reset_calm (hs : TState d t l) (ha : d.armed < 0) :
    (resS d t).2 = 0 ∧ TState (resS d t).1 (resT t 0) [] ∧ areaT (resS d t).1.B t.at_ t.len = put1 (areaT d.B t.at_ t.len) 0 [0] ∧ (resS d t).1.B.length = d.B.length ∧ (∀ j, ¬ (t.at_ ≤ j ∧ j < t.at_ + t.len) → (resS d t).1.B.getD j 0 = d.B.getD j 0) := by
  rcases reset_steps hs with h | h
  · exact h
  · have := h.2.2.1; omega
theorem chain_armed {x : Dk × Nat} {f : Dk → Dk × Nat} (hx : x.1.armed < 0) (hf : ∀ d : Dk, d.armed < 0 → (f d).1.armed < 0) : (chainS x f).1.armed < 0 := by
  unfold chainS
  by_cases h : x.2 = 0
  · rw [if_pos h]; exact hf _ hx
  · rw [if_neg h]; exact hx
theorem stepD_armed (d : Dk) (h : d.armed < 0) : (stepD d).armed < 0 := by
  unfold stepD
  rw [if_neg (by omega), if_neg (by omega)]
  exact h
theorem put_armed (k : Nat) (x : List UInt8) (d : Dk) (h : d.armed < 0) : (putS k x d).1.armed < 0 := by
  show (putD d k x).armed < 0
  unfold putD
  by_cases hb : badE d (k : Int) x.length = 0
  · rw [if_pos hb]; exact stepD_armed _ h
  · rw [if_neg hb]; exact h
theorem sync_armed (d : Dk) (h : d.armed < 0) : (syncS d).1.armed < 0 := by
  show (syncD d).armed < 0
  unfold syncD
  by_cases ho : d.off = true
  · rw [if_pos ho]; exact h
  · rw [if_neg ho]
    by_cases he : stepE d = 0
    · rw [if_pos he]; exact stepD_armed _ h
    · rw [if_neg he]; exact stepD_armed _ h
theorem app_armed (t : Tm) (b : List UInt8) (h : d.armed < 0) : (appS d t b).1.armed < 0 :=
  chain_armed (chain_armed (chain_armed (put_armed _ _ d h) sync_armed) (put_armed _ _)) sync_armed
theorem res_armed (t : Tm) (h : d.armed < 0) : (resS d t).1.armed < 0 := chain_armed (put_armed _ _ d h) sync_armed

theorem rests_new (n at_ len : Nat) (h : at_ + len ≤ n) (h5 : 5 ≤ len) : Rests (newD n) at_ len [] := by
  have hl : (newD n).B.length = n := List.length_replicate
  refine ⟨rfl, rfl, by rw [hl]; exact h, h5, ⟨by simp [encL], by simp [encL], fun _ => ?_, fun b hb => by cases hb⟩⟩
  show (areaT (newD n).B at_ len).getD 0 1 = 0
  rw [area_get 0 (by omega)]
  show (List.replicate n (0 : UInt8)).getD (at_ + 0) 1 = 0
  simp [List.getD, show at_ < n by omega]
end

end Go.Proofs.YthcikgbnenfjpaaDoor.pk
