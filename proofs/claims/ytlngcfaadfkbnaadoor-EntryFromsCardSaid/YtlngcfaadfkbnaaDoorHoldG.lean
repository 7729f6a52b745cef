/-
  What the program's own log promises, as the laws' walks ask it.
-/
import Derived.Test.YtlngcfaadfkbnaaDoorEncG
import Derived.Test.YtlngcfaadfkbnaaDoorHg12
import Derived.Test.YtlngcfaadfkbnaaDoorHg8
namespace Go.Proofs.YtlngcfaadfkbnaaDoor.pk
open Go Go.RowKit
set_option maxRecDepth 100000

theorem Inp.of {l : Lg} {A : Option Addr} {n c : Nat} {w : World} (h : Ents w (.slice A n c) l.l) (hb : inI l.base) (ht : inI l.term) (hs : SmallE 1000 100000 l.l) : Inp l A n c w :=
  ⟨h, hb, ht, by have := hs.1; omega, fun e he => by have := hs.2 e he; omega⟩

theorem Merge_s (l : Lg) (A : Option Addr) (n c : Nat) (i t : Int) (A' : Option Addr) (n' c' : Nat) (more : List En) (w : World) (h : Inp l A n c w) (hs : SmallE 1000 100000 l.l) (hit : inI i ∧ inI t) (h' : Ents w (.slice A' n' c') more) (hs' : SmallE 1000 100000 more) (m : Lg) (z : Int) (hmz : mergeE l i t more = some (m, z)) (q : Nat) (hq : q = m.l.length) :
    Calls Tryd.prog 22 #[.agg #[.int .i64 l.base, .int .i64 l.term, .slice A n c], .int .i64 i, .int .i64 t, .slice A' n' c'] w fun y w' => ∃ A1 c1, y = .returned (.tuple #[.agg #[.int .i64 m.base, .int .i64 m.term, .slice A1 q c1], .int .i64 z, .bool true]) ∧ FEnts w w' (.slice A1 q c1) m.l ∧ Below w.heap.size w w' := by
  rcases mergeE_cases l i t more with ⟨hm, hx⟩ | ⟨hm, c1, hx⟩ | ⟨hm, c1, c2, hx⟩ | ⟨hm, c1, c2, c3, hx⟩ | ⟨hm, c1, c2, c3, c4, c5, hx⟩ | ⟨hm, c1, c2, c3, c4, c5, hx⟩ | ⟨hm, c1, c2, c3, c4, c5, hx⟩
  case inr.inr.inr.inr.inr.inr =>
    rw [hx] at hmz
    injection hmz with hmz
    injection hmz with e1 e2
    subst e1
    refine (Merge_join l A n c i t A' n' c' more w h hs hit h' hs' hm c1 c2 c3 c4 true c5 q (by rw [if_pos rfl]; exact hq)).mono ?_
    rintro y w' ⟨A1, c1, zz, rfl, h1, h2, h3⟩
    rw [if_pos rfl] at h1
    have := h3 rfl
    refine ⟨A1, c1, ?_, h1, h2⟩
    rw [this, e2]
    rfl
  all_goals
    rw [hx] at hmz
    cases hmz
theorem Merge_n (l : Lg) (A : Option Addr) (n c : Nat) (i t : Int) (A' : Option Addr) (n' c' : Nat) (more : List En) (w : World) (h : Inp l A n c w) (hs : SmallE 1000 100000 l.l) (hit : inI i ∧ inI t) (h' : Ents w (.slice A' n' c') more) (hs' : SmallE 1000 100000 more) (hno : mergeE l i t more = none) (m : Lg) (hmm : m = (if mayE l = true then l else zl)) (q : Nat) (hq : q = m.l.length) :
    Calls Tryd.prog 22 #[.agg #[.int .i64 l.base, .int .i64 l.term, .slice A n c], .int .i64 i, .int .i64 t, .slice A' n' c'] w fun y w' => ∃ A1 c1 z, y = .returned (.tuple #[.agg #[.int .i64 m.base, .int .i64 m.term, .slice A1 q c1], .int .i64 z, .bool false]) ∧ FEnts w w' (.slice A1 q c1) m.l ∧ Below w.heap.size w w' := by
  by_cases hj : mayE l = true ∧ ¬ i < 0 ∧ behindE i t more = true ∧ ¬ l.base + (l.l.length : Int) < i ∧ (l.base < i → tmE l i = t) ∧ mayE (mergedE l i more) = false
  · obtain ⟨hm, c1, c2, c3, c4, c5⟩ := hj
    rw [hm, if_pos rfl] at hmm
    subst hmm
    refine (Merge_join m A n c i t A' n' c' more w h hs hit h' hs' hm c1 c2 c3 c4 false c5 q (by rw [if_neg (by simp)]; exact hq)).mono ?_
    rintro y w' ⟨A1, c1, zz, rfl, h1, h2, -⟩
    rw [if_neg (by simp)] at h1
    exact ⟨A1, c1, zz, rfl, h1, h2⟩
  · refine Merge_no l A n c i t A' n' c' more w h hs hit h' hs' hno (fun h1 h2 h3 h4 h5 => ?_) m hmm q hq
    cases hx : mayE (mergedE l i more) with
    | true => rfl
    | false => exact absurd ⟨h1, h2, h3, h4, h5, hx⟩ hj

/-- THE PROGRAM's LOG. -/
theorem conG : ConG where
  gLast l A n c w h hb ht hs r hr := Last_g l A n c w (Inp.of h hb ht hs) r hr
  gCheck l A n c w h hb ht hs k hk := (Inp.of h hb ht hs).check k hk
  gTerm l A n c i w h hb ht hs _ r hr := Term_g l A n c i w (Inp.of h hb ht hs) r hr
  gAt l A n c i w h hb ht hs _ r hr m hm := At_g l A n c i w (Inp.of h hb ht hs) r hr m hm
  gAdd l A n c t k A' n' c' d w h hb ht hs _ _ hd hn r hr m hm := Add_g l A n c t k A' n' c' d w (Inp.of h hb ht hs) hd (by omega) r hr m hm
  gMergeS l A n c i t A' n' c' more w h hb ht hs hi hk h' hs' m z hmz q hq := Merge_s l A n c i t A' n' c' more w (Inp.of h hb ht hs) hs ⟨hi, hk⟩ h' hs' m z hmz q hq
  gMergeN l A n c i t A' n' c' more w h hb ht hs hi hk h' hs' hno m hm q hq := Merge_n l A n c i t A' n' c' more w (Inp.of h hb ht hs) hs ⟨hi, hk⟩ h' hs' hno m hm q hq
  gFrom l A n c i most w h hb ht hs _ _ r hr q hq := (From_g l A n c i most w (Inp.of h hb ht hs) r hr q hq).mono fun _ _ ⟨A1, c1, h1, h2, h3⟩ => ⟨A1, c1, h1, h2.ents, h3⟩
  gCompact l A n c i w h hb ht hs _ r hr q hq := Compact_g l A n c i w (Inp.of h hb ht hs) r hr q hq
  gEncode e A n c w hs h hn m hm := Encode_any e A n c w hs h hn m hm

end Go.Proofs.YtlngcfaadfkbnaaDoor.pk
