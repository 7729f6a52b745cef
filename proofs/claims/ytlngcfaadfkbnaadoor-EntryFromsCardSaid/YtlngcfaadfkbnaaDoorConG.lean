/-
  What the program's package is asked for by stage 9's laws, as contracts.
-/
import Derived.Test.YtlngcfaadfkbnaaDoorLayN
import Derived.Test.YtlngcfaadfkbnaaDoorGiv
import Derived.Test.YtlngcfaadfkbnaaDoorStdG
namespace Go.Proofs.YtlngcfaadfkbnaaDoor.pk
open Go Go.RowKit
set_option maxRecDepth 100000

theorem wpAnyH_strong {P : Program} {md : Region.Mode} {ops : Array Oper} {Q : Exit → Act → World → Prop} {S S' : World → Prop} (hSS : ∀ w, S' w → S w) :
    ∀ (fuel : Nat) (listed : Array Bool) (a : Act) (w : World), wpAnyH P md ops Q S' fuel listed a w → wpAnyH P md ops Q S fuel listed a w
  | 0, _, _, _, h => h
  | fuel + 1, _, _, _, h => ⟨h.1, fun i hi => wpOp_mono (fun a' w' h' => ⟨hSS _ h'.1, wpAnyH_strong hSS fuel _ a' w' h'.2⟩) (h.2 i hi)⟩

structure ConG : Prop where
  gLast : ∀ (l : Lg) (A : Option Addr) (n c : Nat) (w : World), Ents w (.slice A n c) l.l → inI l.base → inI l.term → SmallE 1000 100000 l.l → ∀ r, r = lastE l →
    Calls Tryd.prog 11 #[.agg #[.int .i64 l.base, .int .i64 l.term, .slice A n c]] w fun y w' => y = .returned (.tuple #[.int .i64 r.1, .int .i64 r.2]) ∧ Below w.heap.size w w'
  gCheck : ∀ (l : Lg) (A : Option Addr) (n c : Nat) (w : World), Ents w (.slice A n c) l.l → inI l.base → inI l.term → SmallE 1000 100000 l.l → ∀ k, k = (if mayE l = true then 0 else 1) →
    Calls Tryd.prog 17 #[.agg #[.int .i64 l.base, .int .i64 l.term, .slice A n c]] w fun y w' => y = .returned (er k) ∧ Below w.heap.size w w'
  gTerm : ∀ (l : Lg) (A : Option Addr) (n c : Nat) (i : Int) (w : World), Ents w (.slice A n c) l.l → inI l.base → inI l.term → SmallE 1000 100000 l.l → inI i → ∀ r, r = termE l i →
    Calls Tryd.prog 13 #[.agg #[.int .i64 l.base, .int .i64 l.term, .slice A n c], .int .i64 i] w fun y w' => y = .returned (.tuple #[.int .i64 r.1, er r.2]) ∧ Below w.heap.size w w'
  gAt : ∀ (l : Lg) (A : Option Addr) (n c : Nat) (i : Int) (w : World), Ents w (.slice A n c) l.l → inI l.base → inI l.term → SmallE 1000 100000 l.l → inI i → ∀ r, r = atE l i → ∀ m, m = r.1.data.length →
    Calls Tryd.prog 15 #[.agg #[.int .i64 l.base, .int .i64 l.term, .slice A n c], .int .i64 i] w fun y w' => ∃ Ad cd, y = .returned (.tuple #[.agg #[.int .i64 r.1.index, .int .i64 r.1.term, .int .i64 r.1.kind, .slice Ad m cd], er r.2]) ∧ Bys w' (.slice Ad m cd) r.1.data ∧ Below w.heap.size w w'
  gAdd : ∀ (l : Lg) (A : Option Addr) (n c : Nat) (t k : Int) (A' : Option Addr) (n' c' : Nat) (d : List UInt8) (w : World), Ents w (.slice A n c) l.l → inI l.base → inI l.term → SmallE 1000 100000 l.l → inI t → inI k → Bys w (.slice A' n' c') d → n' ≤ 100000 → ∀ r, r = addE l t k d → ∀ m, m = r.1.l.length →
    Calls Tryd.prog 30 #[.agg #[.int .i64 l.base, .int .i64 l.term, .slice A n c], .int .i64 t, .int .i64 k, .slice A' n' c'] w fun y w' => ∃ A1 c1, y = .returned (.tuple #[.agg #[.int .i64 r.1.base, .int .i64 r.1.term, .slice A1 m c1], er r.2]) ∧ EntsT w' (fun q => w.heap.size ≤ q ∧ q < w'.heap.size) (.slice A1 m c1) r.1.l ∧ Below w.heap.size w w'
  gMergeS : ∀ (l : Lg) (A : Option Addr) (n c : Nat) (i t : Int) (A' : Option Addr) (n' c' : Nat) (more : List En) (w : World), Ents w (.slice A n c) l.l → inI l.base → inI l.term → SmallE 1000 100000 l.l → inI i → inI t → Ents w (.slice A' n' c') more → SmallE 1000 100000 more → ∀ m z, mergeE l i t more = some (m, z) → ∀ q, q = m.l.length →
    Calls Tryd.prog 22 #[.agg #[.int .i64 l.base, .int .i64 l.term, .slice A n c], .int .i64 i, .int .i64 t, .slice A' n' c'] w fun y w' => ∃ A1 c1, y = .returned (.tuple #[.agg #[.int .i64 m.base, .int .i64 m.term, .slice A1 q c1], .int .i64 z, .bool true]) ∧ FEnts w w' (.slice A1 q c1) m.l ∧ Below w.heap.size w w'
  gMergeN : ∀ (l : Lg) (A : Option Addr) (n c : Nat) (i t : Int) (A' : Option Addr) (n' c' : Nat) (more : List En) (w : World), Ents w (.slice A n c) l.l → inI l.base → inI l.term → SmallE 1000 100000 l.l → inI i → inI t → Ents w (.slice A' n' c') more → SmallE 1000 100000 more → mergeE l i t more = none → ∀ m, m = (if mayE l = true then l else zl) → ∀ q, q = m.l.length →
    Calls Tryd.prog 22 #[.agg #[.int .i64 l.base, .int .i64 l.term, .slice A n c], .int .i64 i, .int .i64 t, .slice A' n' c'] w fun y w' => ∃ A1 c1 z, y = .returned (.tuple #[.agg #[.int .i64 m.base, .int .i64 m.term, .slice A1 q c1], .int .i64 z, .bool false]) ∧ FEnts w w' (.slice A1 q c1) m.l ∧ Below w.heap.size w w'
  gFrom : ∀ (l : Lg) (A : Option Addr) (n c : Nat) (i most : Int) (w : World), Ents w (.slice A n c) l.l → inI l.base → inI l.term → SmallE 1000 100000 l.l → inI i → inI most → ∀ r, r = fromE l i most → ∀ q, q = r.length →
    Calls Tryd.prog 26 #[.agg #[.int .i64 l.base, .int .i64 l.term, .slice A n c], .int .i64 i, .int .i64 most] w fun y w' => ∃ A1 c1, y = .returned (.slice A1 q c1) ∧ Ents w' (.slice A1 q c1) r ∧ Below w.heap.size w w'
  gCompact : ∀ (l : Lg) (A : Option Addr) (n c : Nat) (i : Int) (w : World), Ents w (.slice A n c) l.l → inI l.base → inI l.term → SmallE 1000 100000 l.l → inI i → ∀ r, r = compactE l i → ∀ q, q = r.1.l.length →
    Calls Tryd.prog 28 #[.agg #[.int .i64 l.base, .int .i64 l.term, .slice A n c], .int .i64 i] w fun y w' => ∃ A1 c1, y = .returned (.tuple #[.agg #[.int .i64 r.1.base, .int .i64 r.1.term, .slice A1 q c1], er r.2]) ∧ Ents w' (.slice A1 q c1) r.1.l ∧ Below w.heap.size w w'
  gEncode : ∀ (e : En) (A : Option Addr) (n c : Nat) (w : World), StdG w → Bys w (.slice A n c) e.data → n ≤ 100000 → ∀ m, m = (encE e).length →
    Calls Tryd.prog 20 #[.agg #[.int .i64 e.index, .int .i64 e.term, .int .i64 e.kind, .slice A n c]] w fun y w' => ∃ A1 c1, y = .returned (.slice A1 m c1) ∧ Bys w' (.slice A1 m c1) (encE e) ∧ Below w.heap.size w w'

/-- What comes of a merge. -/
def okE (l : Lg) (i t : Int) (more : List En) : Bool := (mergeE l i t more).isSome
def outE (l : Lg) (i t : Int) (more : List En) : Lg := match mergeE l i t more with
  | some r => r.1
  | none => if mayE l = true then l else zl
def atM (l : Lg) (i t : Int) (more : List En) : Int := match mergeE l i t more with
  | some r => r.2
  | none => 0
theorem gMerge_any (C : ConG) (l : Lg) (A : Option Addr) (n c : Nat) (i t : Int) (A' : Option Addr) (n' c' : Nat) (more : List En) (w : World) (h : Ents w (.slice A n c) l.l) (hi : inI l.base) (ht : inI l.term) (hs : SmallE 1000 100000 l.l) (hk : inI i) (hkt : inI t) (h' : Ents w (.slice A' n' c') more) (hs' : SmallE 1000 100000 more)
    (m : Lg) (hm : m = outE l i t more) (ok : Bool) (hok : ok = okE l i t more) (z : Int) (hz : z = atM l i t more) (q : Nat) (hq : q = m.l.length) :
    Calls Tryd.prog 22 #[.agg #[.int .i64 l.base, .int .i64 l.term, .slice A n c], .int .i64 i, .int .i64 t, .slice A' n' c'] w fun y w' => ∃ A1 c1 zz, y = .returned (.tuple #[.agg #[.int .i64 m.base, .int .i64 m.term, .slice A1 q c1], .int .i64 zz, .bool ok]) ∧ FEnts w w' (.slice A1 q c1) m.l ∧ Below w.heap.size w w' ∧ (ok = true → zz = z) := by
  unfold outE at hm
  unfold okE at hok
  unfold atM at hz
  cases hme : mergeE l i t more with
  | none =>
    rw [hme] at hm hok hz
    subst hok
    refine (C.gMergeN l A n c i t A' n' c' more w h hi ht hs hk hkt h' hs' hme m hm q hq).mono ?_
    rintro y w' ⟨A1, c1, zz, rfl, h1, h2⟩
    exact ⟨A1, c1, zz, rfl, h1, h2, fun h => by cases h⟩
  | some r =>
    obtain ⟨m', z'⟩ := r
    rw [hme] at hm hok hz
    subst hok
    subst hz
    subst hm
    refine (C.gMergeS l A n c i t A' n' c' more w h hi ht hs hk hkt h' hs' m z hme q hq).mono ?_
    rintro y w' ⟨A1, c1, rfl, h1, h2⟩
    exact ⟨A1, c1, z, rfl, h1, h2, fun _ => rfl⟩
theorem overE_small {d : Nat} : ∀ {a b : List En}, (∀ e ∈ a, e.data.length ≤ d) → (∀ e ∈ b, e.data.length ≤ d) → (overE a b).length ≤ a.length + b.length ∧ ∀ e ∈ overE a b, e.data.length ≤ d
  | a, [], ha, _ => by rw [overE_nil]; exact ⟨by simp, ha⟩
  | [], e :: r, _, hb => ⟨by show (e :: r).length ≤ _; simp, hb⟩
  | o :: a, e :: r, ha, hb => by
    rw [overE_cons]
    by_cases h : o.term = e.term
    · rw [if_pos h]
      have h1 := overE_small (a := a) (b := r) (fun x hx => ha x (List.mem_cons_of_mem _ hx)) (fun x hx => hb x (List.mem_cons_of_mem _ hx))
      refine ⟨by simp only [List.length_cons]; omega, fun x hx => ?_⟩
      rcases List.mem_cons.1 hx with rfl | hx
      · exact ha _ (List.mem_cons_self ..)
      · exact h1.2 x hx
    · rw [if_neg h]
      exact ⟨by simp only [List.length_cons]; omega, hb⟩
theorem merged_small {l : Lg} {i : Int} {more : List En} {k k' d : Nat} (h : SmallE k d l.l) (h' : SmallE k' d more) : SmallE (k + k') d (mergedE l i more).l := by
  have h1 := overE_small (d := d) (a := l.l.drop (i - l.base).toNat) (b := more.drop (l.base - i).toNat) (fun e he => h.2 e (List.mem_of_mem_drop he)) (fun e he => h'.2 e (List.mem_of_mem_drop he))
  refine ⟨?_, fun e he => ?_⟩
  · show (_ ++ _ : List En).length ≤ _
    rw [List.length_append, List.length_take]
    have := h1.1
    rw [List.length_drop, List.length_drop] at this
    have := h.1
    have := h'.1
    omega
  · rcases List.mem_append.1 he with he | he
    · exact h.2 e (List.mem_of_mem_take he)
    · exact h1.2 e he

/-- The law's own log. -/
def logS (j : Nat) : Lg := ⟨0, 0, [⟨1, 1, 1, []⟩, ⟨2, 1, 1, []⟩, ⟨3, 2, 1, []⟩].take j⟩
def tS (j : Nat) : Int := 1 + (j : Int) / 2
theorem add_ex {j : Nat} (hj : j < 3) : addE (logS j) (tS j) 1 [] = (logS (j + 1), 0) := by
  have : j = 0 ∨ j = 1 ∨ j = 2 := by omega
  rcases this with rfl | rfl | rfl
  all_goals
    unfold addE
    rw [if_neg (by decide), if_neg (by decide), if_neg (by decide)]
    rfl
def moreS : List En := [⟨3, 3, 0, []⟩]
def logT : Lg := ⟨0, 0, [⟨1, 1, 1, []⟩, ⟨2, 1, 1, []⟩, ⟨3, 3, 0, []⟩]⟩
theorem merge_ex : mergeE (logS 3) 2 1 moreS = some (logT, 3) := by
  unfold mergeE
  rw [if_neg (by decide), if_pos (by decide)]
  rfl
theorem last_ex : lastE logT = (3, 3) := by
  unfold lastE
  rw [if_pos (by decide)]
  rfl
theorem logS_len {j : Nat} (hj : j ≤ 3) : (logS j).l.length = j := by
  unfold logS; simp only [List.length_take, List.length_cons, List.length_nil]; omega
theorem logS_ok (j : Nat) : ∀ e ∈ (logS j).l, e.ok := fun e he => by
  have h := List.mem_of_mem_take he
  simp only [List.mem_cons, List.not_mem_nil, or_false] at h
  rcases h with rfl | rfl | rfl <;> (unfold En.ok inI; decide)
theorem logS_small (j : Nat) : SmallE 1000 100000 (logS j).l := by
  refine ⟨by unfold logS; simp only [List.length_take, List.length_cons, List.length_nil]; omega, fun e he => ?_⟩
  have h := List.mem_of_mem_take he
  simp only [List.mem_cons, List.not_mem_nil, or_false] at h
  rcases h with rfl | rfl | rfl <;> decide

end Go.Proofs.YtlngcfaadfkbnaaDoor.pk
