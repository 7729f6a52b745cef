/-
  The document's own words of a log: Behind, May.
-/
import Derived.Test.YtlngcfaadfkbnaaDoorEntM
import Derived.Deep.QuietTactic
import Derived.BigQuiet
import Derived.IntWalk
import Derived.Outline
import Derived.RegionTactic
import Derived.Deep.CutBlock
namespace Go.Proofs.YtlngcfaadfkbnaaDoor.pk
open Go Go.RowKit
set_option maxRecDepth 100000

theorem behindE_drop {i t : Int} {l : List En} {j : Nat} (hj : j < l.length) : behindE i t (l.drop j) = (goodE i t l[j] && behindE (i + 1) l[j].term (l.drop (j + 1))) := by
  rw [List.drop_eq_getElem_cons hj]; rfl
theorem below_round {w wr w' : World} (h : Below w.heap.size w wr) (hb : Below wr.heap.size wr w') : Below w.heap.size w w' := h.trans (hb.mono h.size)

set_option maxHeartbeats 4000000 in
theorem Behind_any (i t : Int) (A : Option Addr) (n c : Nat) (l : List En) (w : World) (h : Ents w (.slice A n c) l) (hi : inI i) (ht : inI t) (b : Bool) (hb : b = behindE i t l) :
    Calls Tryd.prog 38 #[.int .i64 i, .int .i64 t, .slice A n c] w fun y w' => y = .returned (.bool b) ∧ Below w.heap.size w w' := by
  obtain ⟨hn, hnc, hcm⟩ := h.len_
  have in1 : (n : Int) ≤ 9223372036854775807 := by omega
  have HH := Lib.hid (And.intro h (And.intro hn hb))
  have HI := Lib.hid (And.intro hi ht)
  clear h hn hnc hcm hb hi ht
  go_enter Tryd.func38, Tryd.ntmps38
  go_wp2_with fail
  go_loopw [1, 7] (fun tt ii wr => ∃ (j : Nat) (t' : Int), j ≤ n ∧ ii = .int .i64 (j : Int) ∧ tt = .int .i64 t' ∧ Hid (inI t' ∧ b = behindE (i + (j : Int)) t' (l.drop j)) ∧ Below w.heap.size w wr) (fun _ ii _ => n - (intOf ii).toNat)
  case atStart => exact ⟨0, t, Nat.zero_le _, rfl, rfl, Lib.hid ⟨HI.out.2, by rw [List.drop_zero]; simpa using HH.out.2.2⟩, Below.refl _ _⟩
  case round =>
    obtain ⟨j, t', hj, rfl, rfl, HB, hbw⟩ := hrel
    by_cases hlt : j < n
    · have ii : (j : Int) < (n : Int) := by omega
      have hjl : j < l.length := by have := HH.out.2.1; omega
      obtain ⟨bk, off, Ad, cd, rfl, hbb, hok, q0, q1, q2, q3, -⟩ := HH.out.1.at_ j hjl
      have hbd := behindE_drop (i := i + (j : Int)) (t := t') hjl
      obtain ⟨e, he⟩ : ∃ e, e = l[j] := ⟨_, rfl⟩
      rw [← he] at hok q0 q1 q2 q3 hbd
      rw [← HB.out.2] at hbd
      have p0 := (hbw.cell (p := ⟨bk, off + j * 4, none⟩) hbb).trans q0
      have p1 := (hbw.cell (p := ⟨bk, off + j * 4 + 1, none⟩) hbb).trans q1
      have p2 := (hbw.cell (p := ⟨bk, off + j * 4 + 2, none⟩) hbb).trans q2
      have p3 := (hbw.cell (p := ⟨bk, off + j * 4 + 3, none⟩) hbb).trans q3
      obtain ⟨⟨k0, k0'⟩, ⟨k1, k1'⟩, ⟨k2, k2'⟩⟩ := hok
      obtain ⟨m, hm⟩ : ∃ m, m = e.data.length := ⟨_, rfl⟩
      rw [← hm] at p3
      have HBD := Lib.hid (And.intro hbd (And.intro hm (And.intro hbw HI.out)))
      clear hbb q0 q1 q2 q3 hbd he hm hbw
      go_wp2_with fail
      all_goals first
        | (go_roundw
           case rel =>
             have hg : goodE (i + (j : Int)) t' e = true := goodE_iff.2 (by have := HBD.out.2.1; omega)
             refine ⟨j + 1, e.term, by omega, by go_num, rfl, Lib.hid ⟨⟨k1, k1'⟩, ?_⟩, below_round HBD.out.2.2.1 (below_alloc _ _)⟩
             rw [HBD.out.1, hg, Bool.true_and]
             congr 1
             omega
           case measure => simp [intOf]; omega)
        | (go_ret
           have hg : goodE (i + (j : Int)) t' e = false := by
             refine Bool.eq_false_iff.2 fun h => ?_
             have := goodE_iff.1 h
             have := HBD.out.2.1
             omega
           exact ⟨by rw [HBD.out.1, hg]; rfl, below_round HBD.out.2.2.1 (below_alloc _ _)⟩)
    · obtain rfl : j = n := by omega
      have ii : ¬ (j : Int) < (j : Int) := by omega
      go_wp2_with fail
      go_ret
      exact ⟨by have := HB.out.2; rw [List.drop_eq_nil_of_le (by have := HH.out.2.1; omega)] at this; rw [this]; rfl, hbw⟩


set_option maxHeartbeats 4000000 in
theorem May_any (l : Lg) (A : Option Addr) (n c : Nat) (w : World) (h : Ents w (.slice A n c) l.l) (hi : inI l.base) (ht : inI l.term) (b : Bool) (hb : b = mayE l) :
    Calls Tryd.prog 18 #[.agg #[.int .i64 l.base, .int .i64 l.term, .slice A n c]] w fun y w' => y = .returned (.bool b) ∧ Below w.heap.size w w' := by
  obtain ⟨hn, hnc, hcm⟩ := h.len_
  obtain ⟨base, tm, es⟩ := l
  have HH := Lib.hid (And.intro h (And.intro hn hb))
  have HI := Lib.hid (And.intro hi ht)
  obtain ⟨i1, i2⟩ := hi
  obtain ⟨i3, i4⟩ := ht
  simp only at i1 i2 i3 i4 HH HI ⊢
  have HC := Lib.hid fun W (hW : Below w.heap.size w W) => Behind_any base tm A n c es W (HH.out.1.below hW) HI.out.1 HI.out.2 _ rfl
  have HA := Lib.hid (below_alloc w)
  clear h hn hnc hcm hb
  by_cases hz : (base = 0 ↔ tm = 0)
  · have hz1 : (base == 0) = (tm == 0) := by rw [Bool.eq_iff_iff, beq_iff_eq, beq_iff_eq]; exact hz
    go_enter Tryd.func18, Tryd.ntmps18
    go_wp2_with (go_at_call 38; go_must (refine (HC.out _ (HA.out _)).mono ?_; rintro y w1 ⟨rfl, hb1⟩; have HB := Lib.hid ((HA.out _).trans (hb1.mono (HA.out _).size)); clear hb1))
    all_goals first
      | (go_ret
         have hg : headE ⟨base, tm, es⟩ = true := headE_iff.2 (by have := HH.out.2.1; simp only; omega)
         exact ⟨by rw [HH.out.2.2]; unfold mayE; rw [hg, Bool.true_and]; rfl, HB.out⟩)
      | (go_ret
         have hg : headE ⟨base, tm, es⟩ = false := by
           refine Bool.eq_false_iff.2 fun h => ?_
           have := headE_iff.1 h
           have := HH.out.2.1
           simp only at *
           omega
         exact ⟨by rw [HH.out.2.2]; unfold mayE; rw [hg, Bool.false_and]; rfl, HA.out _⟩)
  · have hz1 : ¬ (base == 0) = (tm == 0) := by rw [Bool.eq_iff_iff, beq_iff_eq, beq_iff_eq]; exact hz
    have hg : headE ⟨base, tm, es⟩ = false := by
      refine Bool.eq_false_iff.2 fun h => ?_
      exact hz (headE_iff.1 h).2.2.2.2.1
    have HG := Lib.hid hg
    clear hz hg
    go_enter Tryd.func18, Tryd.ntmps18
    go_wp2_with (go_at_call 38; fail)
    all_goals
      go_ret
      exact ⟨by rw [HH.out.2.2]; unfold mayE; rw [HG.out, Bool.false_and]; rfl, HA.out _⟩

end Go.Proofs.YtlngcfaadfkbnaaDoor.pk
