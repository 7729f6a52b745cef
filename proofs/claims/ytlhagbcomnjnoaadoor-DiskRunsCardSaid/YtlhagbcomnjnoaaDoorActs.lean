/-
  Acts in memory; what stays of a disk.
-/
import Derived.Test.YtlhagbcomnjnoaaDoorLive
namespace Go.Proofs.YtlhagbcomnjnoaaDoor.pk
open Go Go.RowKit
set_option maxRecDepth 100000

structure Ac where
  kind : Int
  at_ : Int
  n : Int
  data : List UInt8
  keep : List Int
def Ac.ok (a : Ac) : Prop := inI a.kind ∧ inI a.at_ ∧ inI a.n ∧ (∀ z ∈ a.keep, inI z) ∧ a.keep.length * 8 ≤ 140737488355328

/-- A slice of acts. -/
def ActsT (w : World) (T : Nat → Prop) (v : Value) (l : List Ac) : Prop :=
  ∃ cs, RowT w T 5 v l.length cs ∧ ∀ j (h : j < l.length), l[j].ok ∧ cs[j * 5]? = some (.int .i64 l[j].kind) ∧ cs[j * 5 + 1]? = some (.int .i64 l[j].at_) ∧ cs[j * 5 + 2]? = some (.int .i64 l[j].n) ∧
    (∃ u, cs[j * 5 + 3]? = some u ∧ SlT w T u l[j].data) ∧ ∃ u, cs[j * 5 + 4]? = some u ∧ IntsT w T u l[j].keep
theorem ActsT.form {w : World} {T : Nat → Prop} {v : Value} {l : List Ac} (h : ActsT w T v l) : ∃ A c, v = .slice A l.length c ∧ l.length ≤ c ∧ c ≤ 9223372036854775807 := by
  obtain ⟨cs, h, _⟩ := h
  exact h.form
theorem ActsT.at_ {w : World} {T : Nat → Prop} {A : Option Addr} {m c : Nat} {l : List Ac} (h : ActsT w T (.slice A m c) l) (i : Nat) (hi : i < l.length) :
    ∃ b off Ad cd Ak ck, A = some ⟨b, off, none⟩ ∧ T b ∧ l[i].ok ∧ w.cell? ⟨b, off + i * 5, none⟩ = some (.int .i64 l[i].kind) ∧ w.cell? ⟨b, off + i * 5 + 1, none⟩ = some (.int .i64 l[i].at_) ∧ w.cell? ⟨b, off + i * 5 + 2, none⟩ = some (.int .i64 l[i].n) ∧
      w.cell? ⟨b, off + i * 5 + 3, none⟩ = some (.slice Ad l[i].data.length cd) ∧ w.cell? ⟨b, off + i * 5 + 4, none⟩ = some (.slice Ak l[i].keep.length ck) ∧ SlT w T (.slice Ad l[i].data.length cd) l[i].data ∧ IntsT w T (.slice Ak l[i].keep.length ck) l[i].keep := by
  obtain ⟨cs, hr, he⟩ := h
  obtain ⟨-, -, -, b, off, rfl, hb, hc⟩ := hr.at_ (by omega)
  obtain ⟨hok, h0, h1, h2, ⟨u, hu, hs⟩, u2, hu2, hs2⟩ := he i hi
  have hs' := hs
  obtain ⟨Ad, cd, rfl, _⟩ := hs
  obtain ⟨Ak, ck, rfl, _, _⟩ := hs2.form
  exact ⟨b, off, Ad, cd, Ak, ck, rfl, hb, hok, hc _ _ h0, hc _ _ h1, hc _ _ h2, hc _ _ hu, hc _ _ hu2, hs', hs2⟩

/-- Neither armed nor down. -/
structure Calm (d : Dk) : Prop where
  armed : d.armed = -1
  off : d.off = false
  ok : d.Ok
  len : d.B.length = 60
theorem Calm.step {d : Dk} (h : d.armed = -1) : stepD d = d ∧ stepE d = 0 := by
  unfold stepD stepE
  rw [h, if_neg (by decide), if_neg (by decide), if_neg (by decide)]
  exact ⟨rfl, rfl⟩
theorem Calm.put {d : Dk} (h : Calm d) (at_ : Int) (x : List UInt8) : Calm (putD d at_ x) ∧ (putD d at_ x).B = d.B ∧
    ((putE d at_ x = 0 ∧ 0 ≤ at_ ∧ at_ + x.length ≤ 60 ∧ (putD d at_ x).L = d.L ++ [(at_.toNat, x)] ∧ badE (putD d at_ x) at_ x.length = 0 ∧ readB (putD d at_ x) at_ x.length = x) ∨ (putE d at_ x = 1 ∧ putD d at_ x = d)) := by
  have hO := putD_ok h.ok at_ x
  by_cases hb : badE d at_ x.length = 0
  · obtain ⟨h1, h2, h3, h4, h5⟩ := badE_in hb
    have hp : putD d at_ x = { d with L := d.L ++ [(at_.toNat, x)] } := by
      unfold putD
      rw [if_pos hb]
      exact (Calm.step (d := { d with L := d.L ++ [(at_.toNat, x)] }) h.armed).1
    have hl := h.len
    have hb2 : badE (putD d at_ x) at_ x.length = 0 := by rw [hp]; exact hb
    refine ⟨⟨by rw [hp]; exact h.armed, by rw [hp]; exact h.off, hO, by rw [hp]; exact h.len⟩, by rw [hp], Or.inl ⟨?_, h1, by omega, by rw [hp], hb2, ?_⟩⟩
    · unfold putE
      rw [if_pos hb]
      exact (Calm.step h.armed).2
    · unfold readB
      rw [if_pos hb2, hp]
      show ((nowL d.B (d.L ++ [(at_.toNat, x)])).drop at_.toNat).take (x.length : Int).toNat = x
      rw [nowL_append]
      show ((put1 (nowL d.B d.L) at_.toNat x).drop at_.toNat).take (x.length : Int).toNat = x
      have hn : (nowL d.B d.L).length = d.B.length := h.ok.now
      have ht : ((nowL d.B d.L).take at_.toNat).length = at_.toNat := by rw [List.length_take]; omega
      unfold put1
      rw [List.append_assoc]
      have e1 := List.drop_left (l₁ := (nowL d.B d.L).take at_.toNat) (l₂ := x ++ (nowL d.B d.L).drop (at_.toNat + x.length))
      rw [ht] at e1
      rw [e1]
      have e2 : (x.length : Int).toNat = x.length := by omega
      rw [e2, List.take_left]
  · have hp : putD d at_ x = d := by unfold putD; rw [if_neg hb]
    refine ⟨by rw [hp]; exact h, by rw [hp], Or.inr ⟨?_, hp⟩⟩
    unfold putE
    rw [if_neg hb]
    unfold badE at hb ⊢
    by_cases hc : 0 ≤ at_ ∧ (0 : Int) ≤ x.length ∧ at_ ≤ d.B.length ∧ (x.length : Int) ≤ d.B.length - at_
    · rw [if_pos hc, h.off] at hb
      exact absurd rfl hb
    · rw [if_neg hc]
theorem Calm.sync {d : Dk} (h : Calm d) : Calm (syncD d) ∧ syncE d = 0 ∧ (syncD d).L = [] := by
  have hs := Calm.step h.armed
  have hp : syncD d = { d with B := d.now, L := [] } := by
    unfold syncD
    rw [if_neg (by simp [h.off]), if_pos hs.2, hs.1]
  refine ⟨⟨by rw [hp]; exact h.armed, by rw [hp]; exact h.off, syncD_ok h.ok, (syncD_len h.ok).trans h.len⟩, ?_, by rw [hp]⟩
  unfold syncE
  rw [if_neg (by simp [h.off])]
  exact hs.2
theorem Calm.read {d : Dk} (h : Calm d) (hL : d.L = []) : badE d 0 60 = 0 ∧ readB d 0 60 = d.B := by
  have hl := h.len
  have hb : badE d 0 60 = 0 := by
    unfold badE
    rw [if_pos (by omega), h.off]
    rfl
  refine ⟨hb, ?_⟩
  unfold readB Dk.now
  rw [if_pos hb, hL]
  show (d.B.drop 0).take 60 = d.B
  rw [List.drop_zero, List.take_of_length_le (by omega)]
theorem calm_new : Calm (newD 60) := ⟨rfl, rfl, newD_ok 60, List.length_replicate ..⟩

/-- What no write covers stays. -/
theorem nowL_out : ∀ {l : List (Nat × List UInt8)} {b : List UInt8}, (∀ w ∈ l, w.1 + w.2.length ≤ b.length) → ∀ j, (∀ w ∈ l, ¬ (w.1 ≤ j ∧ j < w.1 + w.2.length)) → (nowL b l).getD j 0 = b.getD j 0
  | [], _, _, _, _ => rfl
  | w :: l, b, h, j, hj => by
    have h0 := h w (List.mem_cons_self ..)
    unfold nowL
    rw [nowL_out (fun v hv => by rw [put1_len h0]; exact h v (List.mem_cons_of_mem _ hv)) j (fun v hv => hj v (List.mem_cons_of_mem _ hv)), put1_get h0, if_neg (hj w (List.mem_cons_self ..))]
theorem start_out {d : Dk} (h : d.Ok) (keep : List Int) (j : Nat) (hj : ∀ w ∈ d.L, ¬ (w.1 ≤ j ∧ j < w.1 + w.2.length)) : (startD d keep).B.getD j 0 = d.B.getD j 0 := by
  refine nowL_out (keptL_ok h keep) j fun w hw => ?_
  unfold keptL at hw
  rcases List.mem_append.1 hw with hw | hw
  · exact hj w (List.mem_of_mem_take hw)
  · obtain ⟨v, hv, rfl⟩ := List.mem_map.1 hw
    have := hj v (List.mem_of_mem_drop (List.mem_of_mem_take hv))
    show ¬ (v.1 ≤ j ∧ j < v.1 + (v.2.take _).length)
    rw [List.length_take]
    omega
theorem calm_start {d : Dk} (h : Calm d) (keep : List Int) : Calm (startD d keep) ∧ (startD d keep).L = [] := ⟨⟨rfl, rfl, startD_ok _ _, (startD_len h.ok keep).trans h.len⟩, rfl⟩

/-- A table of truths in a block of its own. -/
structure Tab (w : World) (b t : Nat) (l : List Bool) : Prop where
  blk : w.heap[b]? = some (.cells (l.map Value.bool).toArray t (0, 0))
theorem Tab.lt {w : World} {b t : Nat} {l : List Bool} (h : Tab w b t l) : b < w.heap.size := by
  rcases Nat.lt_or_ge b w.heap.size with hlt | hge
  · exact hlt
  · have := h.blk; rw [Array.getElem?_eq_none hge] at this; cases this
theorem Tab.cell {w : World} {b t : Nat} {l : List Bool} (h : Tab w b t l) (j : Nat) (hj : j < l.length) : w.cell? ⟨b, j, none⟩ = some (.bool (l.getD j false)) := by
  rw [cell_of_row w b j _ _ (0, 0) h.blk]
  simp [List.getD, List.getElem?_eq_getElem hj]
theorem Tab.fz {w : World} {b t : Nat} {l : List Bool} (h : Tab w b t l) (j : Nat) : w.frozen? ⟨b, j, none⟩ = false := by
  simp [World.frozen?, h.blk]
theorem Tab.kept {w w' : World} {b t : Nat} {l : List Bool} (h : Tab w b t l) (hk : w'.heap[b]? = w.heap[b]?) : Tab w' b t l := ⟨hk.trans h.blk⟩
theorem Tab.set {w : World} {b t : Nat} {l : List Bool} (h : Tab w b t l) (j : Nat) (x : Bool) : Tab (w.setCell ⟨b, j, none⟩ (.bool x)) b t (l.set j x) := by
  refine ⟨?_⟩
  simp [World.setCell, Array.getElem?_modify, h.blk, List.map_set]

/-- What a write into a block of the law's own leaves. -/
theorem Turn.set {S : Nat → Prop} (w : World) {a : Addr} (v : Value) (ha : S a.block) : Turn S S w (w.setCell a v) :=
  ⟨⟨rfl, rfl, rfl, by simp [World.setCell], fun k _ hn => Below.heap_setCell w a v k (fun e => hn (by rw [e]; exact ha))⟩, fun _ h => Or.inl h⟩

/-- What was there lies in no block that is made behind. -/
theorem SlT.apart {w : World} {S : Nat → Prop} {v : Value} {bs : List UInt8} (h : SlT w (Av w S) v bs) (o : Obj) : SlT (w.alloc o) (Av (w.alloc o) (fun k => S k ∨ k = w.heap.size)) v bs := by
  refine (h.kept fun k _ hk => Below.heap_alloc w o k hk).mono fun k hk => ⟨by rw [World.size_alloc]; have := hk.1; omega, fun hs => ?_⟩
  rcases hs with hs | hs
  · exact hk.2 hs
  · have := hk.1; omega

/-- The disk, what was safe, and the table. -/
structure Stay (C : ConD) (w0 w : World) (S : Nat → Prop) (p b t : Nat) (v : Value) (B0 : List UInt8) (d : Dk) (l : List Bool) : Prop where
  live : Live C w0 w S p d
  calm : Calm d
  base : d.B = B0
  safe : SlT w (Av w (fun k => S k ∨ k = b)) v B0
  tab : Tab w b t l
  free : ¬ S b
  low : w0.heap.size ≤ b
  len : l.length = 60
def Cov (L : List (Nat × List UInt8)) (l : List Bool) : Prop := ∀ u ∈ L, ∀ t, t < u.2.length → l.getD (u.1 + t) false = true

section
variable {C : ConD} {w0 w w' : World} {S S' : Nat → Prop} {p b t : Nat} {v : Value} {B0 : List UInt8} {d d' : Dk} {l : List Bool}
theorem Stay.turn (h : Stay C w0 w S p b t v B0 d l) (hl : Live C w0 w' S' p d') (ht : Turn S S' w w') (hc : Calm d') (hB : d'.B = d.B) : Stay C w0 w' S' p b t v B0 d' l :=
  ⟨hl, hc, hB.trans h.base, h.safe.turn ht.beside, h.tab.kept (ht.kept.block b h.tab.lt h.free), fun hs => by
    rcases ht.new b hs with h1 | h1
    · exact h.free h1
    · have := h.tab.lt; omega, h.low, h.len⟩
theorem Stay.more (h : Stay C w0 w S p b t v B0 d l) (hb : Below w.heap.size w w') : Stay C w0 w' S p b t v B0 d l :=
  h.turn (h.live.more hb) (Turn.of_below hb) h.calm rfl
theorem Stay.mark (h : Stay C w0 w S p b t v B0 d l) (j : Nat) : Stay C w0 (w.setCell ⟨b, j, none⟩ (.bool true)) S p b t v B0 d (l.set j true) := by
  have ht : Turn (fun k => S k ∨ k = b) (fun k => S k ∨ k = b) w (w.setCell ⟨b, j, none⟩ (.bool true)) := Turn.set w _ (Or.inr rfl)
  have hS : ∀ k, S k → (w.setCell ⟨b, j, none⟩ (.bool true)).heap[k]? = w.heap[k]? := fun k hk => Below.heap_setCell w _ _ k (fun e => h.free (by rw [← show k = b from e]; exact hk))
  refine ⟨⟨C.frame h.live.dk hS, h.live.low, h.live.below.setCell h.low _⟩, h.calm, h.base, h.safe.turn ht, h.tab.set j true, h.free, h.low, by rw [List.length_set]; exact h.len⟩
theorem Cov.set {L : List (Nat × List UInt8)} {l : List Bool} (h : Cov L l) (j : Nat) : Cov L (l.set j true) := fun u hu t ht => by
  have := h u hu t ht
  simp only [List.getD, List.getElem?_set] at this ⊢
  by_cases hj : j = u.1 + t
  · rw [if_pos hj]
    by_cases hl : j < l.length
    · rw [if_pos hl]; rfl
    · rw [List.getElem?_eq_none (by omega)] at this; cases this
  · rw [if_neg hj]; exact this
end
theorem Cov.of_nil {L : List (Nat × List UInt8)} {l : List Bool} (h : L = []) : Cov L l := fun u hu => by rw [h] at hu; cases hu
theorem marked {l : List Bool} {j : Nat} (hj : j < l.length) : (l.set j true).getD j false = true := by
  simp [List.getD, hj]
theorem mark_old {l : List Bool} {i j : Nat} (h : l.getD i false = true) : (l.set j true).getD i false = true := by
  simp only [List.getD, List.getElem?_set] at h ⊢
  by_cases hj : j = i
  · rw [if_pos hj]
    by_cases hl : j < l.length
    · rw [if_pos hl]; rfl
    · rw [List.getElem?_eq_none (by omega)] at h; cases h
  · rw [if_neg hj]; exact h
theorem Cov.cons {L : List (Nat × List UInt8)} {l : List Bool} (h : Cov L l) (q : Nat) (x : List UInt8) (hx : ∀ t, t < x.length → l.getD (q + t) false = true) : Cov (L ++ [(q, x)]) l := fun u hu t ht => by
  rcases List.mem_append.1 hu with hu | hu
  · exact h u hu t ht
  · obtain rfl := List.mem_singleton.1 hu
    exact hx t ht

end Go.Proofs.YtlhagbcomnjnoaaDoor.pk
