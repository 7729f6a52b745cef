import Derived.Test.YtncaefocijainaaGreatDoorG09
import Derived.Test.YtncaefocijainaaGreatDoorG12
import Derived.Test.YtncaefocijainaaGreatDoorG08
import Derived.Laws.CopyOwn
namespace Go.Proofs.YtncaefocijainaaGreatDoor.pk
open Go Go.RowKit
set_option maxRecDepth 100000
section
structure Live (C : ConD) (w0 w : World) (S : Nat → Prop) (p : Nat) (d : Dk) : Prop where
 dk : C.DK w S p d
 low : ∀ k, S k → w0.heap.size ≤ k
 below : Below w0.heap.size w0 w
variable {C : ConD} {w0 w w' : World} {S S' : Nat → Prop} {p : Nat} {d : Dk}
theorem Live.size (h : Live C w0 w S p d) : w0.heap.size ≤ w.heap.size := h.below.size
theorem Live.more (h : Live C w0 w S p d) (hb : Below w.heap.size w w') : Live C w0 w' S p d :=
 ⟨C.frame h.dk fun k hk => hb.block k (C.foot h.dk k hk), h.low, h.below.trans (hb.mono h.size)⟩
end
section
def Rest (S : Nat → Prop) (p gn gs : Nat) (vw : Value) : Nat → Prop := fun k => S k ∧ k ≠ p ∧ k ≠ gn ∧ k ≠ gs ∧ vw.ownBlock ≠ some k
def Mut (p gn gs : Nat) (vw : Value) : Nat → Prop := fun k => k = p ∨ k = gn ∨ k = gs ∨ vw.ownBlock = some k
theorem Rest.not {S : Nat → Prop} {p gn gs : Nat} {vw : Value} {k : Nat} (h : Rest S p gn gs vw k) : ¬ Mut p gn gs vw k := fun hm => by
 rcases hm with e | e | e | e
 · exact h.2.1 e
 · exact h.2.2.1 e
 · exact h.2.2.2.1 e
 · exact h.2.2.2.2 e
def Elems (w : World) (T : Nat → Prop) (L : List (Nat × List UInt8)) (cs : List Value) : Prop :=
 ∀ j (h : j < L.length), cs[2 * j]? = some (.int .i64 (L[j].1 : Int)) ∧ ∃ u, cs[2 * j + 1]? = some u ∧ SlT w T u L[j].2
structure Rep (w : World) (S : Nat → Prop) (p gn gs nc sc n : Nat) (vw : Value) (cs : List Value) (nowb safeb : List UInt8) (L : List (Nat × List UInt8)) (off ar : Bool) (ah : Int) : Prop where
 box : w.heap[p]? = some (.cells #[.slice (some ⟨gn, 0, none⟩) n nc, .slice (some ⟨gs, 0, none⟩) n sc, vw, .bool off, .bool ar, .int .i64 ah] 107 (0, 0))
 now : w.ownsRow 0 5 1 (.slice (some ⟨gn, 0, none⟩) n nc) n (Lib.byteCells nowb)
 safe : w.ownsRow 0 5 1 (.slice (some ⟨gs, 0, none⟩) n sc) n (Lib.byteCells safeb)
 rows : w.ownsRow 0 110 2 vw L.length cs
 elems : Elems w (Rest S p gn gs vw) L cs
 d1 : p ≠ gn
 d2 : p ≠ gs
 d3 : gn ≠ gs
 d4 : ∀ g, vw.ownBlock = some g → g ≠ p ∧ g ≠ gn ∧ g ≠ gs
 sp : S p
 sn : S gn
 ss : S gs
 sw : ∀ g, vw.ownBlock = some g → S g
 foot : ∀ k, S k → k < w.heap.size
section
variable {w w' : World} {S : Nat → Prop} {p gn gs nc sc n : Nat} {vw : Value} {cs : List Value} {nowb safeb : List UInt8} {L : List (Nat × List UInt8)} {off ar : Bool} {ah : Int}
theorem Elems.kept {T : Nat → Prop} (h : Elems w T L cs) (hk : ∀ k, T k → k < w.heap.size → w'.heap[k]? = w.heap[k]?) : Elems w' T L cs := fun j hj => by
 obtain ⟨h1, u, h2, h3⟩ := h j hj
 exact ⟨h1, u, h2, h3.kept hk⟩
theorem own_block {w w' : World} {b e z k : Nat} {v : Value} {xs : List Value} (h : w.ownsRow b e z v k xs) (hb : ∀ g, v.ownBlock = some g → w'.heap[g]? = w.heap[g]?) : w'.ownsRow b e z v k xs := by
 refine ⟨h.1, ?_⟩
 rcases h.2 with hn | ⟨g, cap, cur, rfl, h1, hg, rest⟩
 · exact Or.inl hn
 · exact Or.inr ⟨g, cap, cur, rfl, h1, (hb g rfl).trans hg, rest⟩
theorem Rep.frame (h : Rep w S p gn gs nc sc n vw cs nowb safeb L off ar ah) (hk : ∀ k, S k → w'.heap[k]? = w.heap[k]?) (hs : w.heap.size ≤ w'.heap.size) : Rep w' S p gn gs nc sc n vw cs nowb safeb L off ar ah :=
 ⟨(hk p h.sp).trans h.box, own_block h.now fun g hg => by injection hg with e; rw [← e]; exact hk gn h.sn, own_block h.safe fun g hg => by injection hg with e; rw [← e]; exact hk gs h.ss,
   own_block h.rows fun g hg => hk g (h.sw g hg), h.elems.kept fun k hk' _ => hk k hk'.1, h.d1, h.d2, h.d3, h.d4, h.sp, h.sn, h.ss, h.sw, fun k hk' => Nat.lt_of_lt_of_le (h.foot k hk') hs⟩
theorem Rep.more (h : Rep w S p gn gs nc sc n vw cs nowb safeb L off ar ah) (hb : Below w.heap.size w w') : Rep w' S p gn gs nc sc n vw cs nowb safeb L off ar ah :=
 h.frame (fun k hk => hb.block k (h.foot k hk)) hb.size
theorem Rep.cells (h : Rep w S p gn gs nc sc n vw cs nowb safeb L off ar ah) :
   w.cell? ⟨p, 0, none⟩ = some (.slice (some ⟨gn, 0, none⟩) n nc) ∧ w.cell? ⟨p, 1, none⟩ = some (.slice (some ⟨gs, 0, none⟩) n sc) ∧ w.cell? ⟨p, 2, none⟩ = some vw ∧ w.cell? ⟨p, 3, none⟩ = some (.bool off) ∧
     w.cell? ⟨p, 4, none⟩ = some (.bool ar) ∧ w.cell? ⟨p, 5, none⟩ = some (.int .i64 ah) ∧ ∀ j, w.frozen? ⟨p, j, none⟩ = false := by
 refine ⟨?_, ?_, ?_, ?_, ?_, ?_, fun j => frozen_of_row w p j _ _ h.box⟩
 all_goals
   rw [cell_of_row w p _ _ _ (0, 0) h.box]
   rfl
theorem Rep.nlen (h : Rep w S p gn gs nc sc n vw cs nowb safeb L off ar ah) : nowb.length = n ∧ safeb.length = n := by
 have h1 := h.now.1
 have h2 := h.safe.1
 simp [Lib.byteCells] at h1 h2
 exact ⟨h1, h2⟩
theorem own_cap {w : World} {b e z k g c : Nat} {xs : List Value} (h : w.ownsRow b e z (.slice (some ⟨g, 0, none⟩) k c) k xs) : k ≤ c ∧ c ≤ 9223372036854775807 := by
 rcases h.2 with ⟨hv, _⟩ | ⟨g', cap, cur, hv, h1, hg, h2, h3, _⟩
 · cases hv
 · injection hv with e1 e2 e3
   subst e3
   simp only [maxLen] at h3
   omega
theorem own_form {w : World} {b e z k : Nat} {v : Value} {xs : List Value} (h : w.ownsRow b e z v k xs) : ∃ A c, v = .slice A k c ∧ k ≤ c ∧ c ≤ 9223372036854775807 := by
 rcases h.2 with ⟨hv, hk⟩ | ⟨g', cap, cur, hv, h1, hg, h2, h3, _⟩
 · subst hk; exact ⟨none, 0, hv, by omega, by omega⟩
 · simp only [maxLen] at h3
   exact ⟨_, cap, hv, h2, by omega⟩
theorem Rep.set3 (h : Rep w S p gn gs nc sc n vw cs nowb safeb L off ar ah) (x : Bool) : Rep (w.setCell ⟨p, 3, none⟩ (.bool x)) S p gn gs nc sc n vw cs nowb safeb L x ar ah := by
 have hk : ∀ k, k ≠ p → (w.setCell ⟨p, 3, none⟩ (.bool x)).heap[k]? = w.heap[k]? := fun k hk => by simp [World.setCell, Array.getElem?_modify, Ne.symm hk]
 refine ⟨by simp [World.setCell, Array.getElem?_modify, h.box], own_block h.now fun g hg => ?_, own_block h.safe fun g hg => ?_, own_block h.rows fun g hg => hk g (h.d4 g hg).1, h.elems.kept fun k hk' _ => hk k hk'.2.1, h.d1, h.d2, h.d3, h.d4, h.sp, h.sn, h.ss, h.sw, fun k hk' => by simpa [World.setCell] using h.foot k hk'⟩
 · injection hg with e; rw [← e]; exact hk gn h.d1.symm
 · injection hg with e; rw [← e]; exact hk gs h.d2.symm
theorem Rep.set4 (h : Rep w S p gn gs nc sc n vw cs nowb safeb L off ar ah) (x : Bool) : Rep (w.setCell ⟨p, 4, none⟩ (.bool x)) S p gn gs nc sc n vw cs nowb safeb L off x ah := by
 have hk : ∀ k, k ≠ p → (w.setCell ⟨p, 4, none⟩ (.bool x)).heap[k]? = w.heap[k]? := fun k hk => by simp [World.setCell, Array.getElem?_modify, Ne.symm hk]
 refine ⟨by simp [World.setCell, Array.getElem?_modify, h.box], own_block h.now fun g hg => ?_, own_block h.safe fun g hg => ?_, own_block h.rows fun g hg => hk g (h.d4 g hg).1, h.elems.kept fun k hk' _ => hk k hk'.2.1, h.d1, h.d2, h.d3, h.d4, h.sp, h.sn, h.ss, h.sw, fun k hk' => by simpa [World.setCell] using h.foot k hk'⟩
 · injection hg with e; rw [← e]; exact hk gn h.d1.symm
 · injection hg with e; rw [← e]; exact hk gs h.d2.symm
theorem Rep.set5 (h : Rep w S p gn gs nc sc n vw cs nowb safeb L off ar ah) (x : Int) : Rep (w.setCell ⟨p, 5, none⟩ (.int .i64 x)) S p gn gs nc sc n vw cs nowb safeb L off ar x := by
 have hk : ∀ k, k ≠ p → (w.setCell ⟨p, 5, none⟩ (.int .i64 x)).heap[k]? = w.heap[k]? := fun k hk => by simp [World.setCell, Array.getElem?_modify, Ne.symm hk]
 refine ⟨by simp [World.setCell, Array.getElem?_modify, h.box], own_block h.now fun g hg => ?_, own_block h.safe fun g hg => ?_, own_block h.rows fun g hg => hk g (h.d4 g hg).1, h.elems.kept fun k hk' _ => hk k hk'.2.1, h.d1, h.d2, h.d3, h.d4, h.sp, h.sn, h.ss, h.sw, fun k hk' => by simpa [World.setCell] using h.foot k hk'⟩
 · injection hg with e; rw [← e]; exact hk gn h.d1.symm
 · injection hg with e; rw [← e]; exact hk gs h.d2.symm
theorem kept_set {w : World} {S : Nat → Prop} {p j : Nat} (hp : S p) (v : Value) : Kept S w (w.setCell ⟨p, j, none⟩ v) :=
 ⟨rfl, rfl, rfl, by simp [World.setCell], fun k _ hn => by
   have : k ≠ p := fun e => hn (by rw [e]; exact hp)
   simp [World.setCell, Array.getElem?_modify, Ne.symm this]⟩
theorem Kept.trans {S : Nat → Prop} {a b c : World} (h : Kept S a b) (k : Kept S b c) : Kept S a c :=
 ⟨k.os.trans h.os, k.tape.trans h.tape, k.output.trans h.output, Nat.le_trans h.size k.size, fun i hi hn => (k.block i (Nat.lt_of_lt_of_le hi h.size) hn).trans (h.block i hi hn)⟩
theorem Kept.turn {S : Nat → Prop} {a b : World} (h : Kept S a b) : Turn S S a b := ⟨h, fun _ hk => Or.inl hk⟩
theorem has_any (h : Rep w S p gn gs nc sc n vw cs nowb safeb L off ar ah) (at_ k : Int) (ha : inI at_) (hk : inI k) (r : Bool) (hr : r = decide (0 ≤ at_ ∧ 0 ≤ k ∧ k ≤ (n : Int) - at_)) :
   Calls Tryz.prog 90 #[.pointer (some ⟨p, 0, none⟩), .int .i64 at_, .int .i64 k] w fun x w' => x = .returned (.bool r) ∧ w = w' := by
 obtain ⟨c0, -, -, -, -, -, -⟩ := h.cells
 obtain ⟨hn, hc⟩ := own_cap h.now
 unfold inI at ha hk
 obtain ⟨ha1, ha2⟩ := ha
 obtain ⟨hk1, hk2⟩ := hk
 have HF := jI h.foot
 by_cases h1 : 0 ≤ at_
 · by_cases h2 : 0 ≤ k
   · by_cases h3 : k ≤ (n : Int) - at_
     · obtain rfl : r = true := by rw [hr]; exact decide_eq_true ⟨h1, h2, h3⟩
       clear hr h HF
       go_enter Tryz.func90, Tryz.ntmps90
       go_wp2
       go_ret
       exact ⟨rfl, rfl⟩
     · obtain rfl : r = false := by rw [hr]; exact decide_eq_false (fun h => h3 h.2.2)
       have h3' : (n : Int) - at_ < k := by omega
       clear hr h HF
       go_enter Tryz.func90, Tryz.ntmps90
       go_wp2
       go_ret
       exact ⟨rfl, rfl⟩
   · obtain rfl : r = false := by rw [hr]; exact decide_eq_false (fun h => h2 h.2.1)
     have h2' : k < 0 := by omega
     clear hr h HF
     go_enter Tryz.func90, Tryz.ntmps90
     go_wp2
     go_ret
     exact ⟨rfl, rfl⟩
 · obtain rfl : r = false := by rw [hr]; exact decide_eq_false (fun h => h1 h.1)
   have h1' : at_ < 0 := by omega
   clear hr h HF
   go_enter Tryz.func90, Tryz.ntmps90
   go_wp2
   go_ret
   exact ⟨rfl, rfl⟩
theorem step_no (h : Rep w S p gn gs nc sc n vw cs nowb safeb L off false ah) :
   Calls Tryz.prog 117 #[.pointer (some ⟨p, 0, none⟩)] w fun x w' => x = .returned (er 0) ∧ w = w' := by
 obtain ⟨-, -, -, -, c4, -, -⟩ := h.cells
 clear h
 go_enter Tryz.func117, Tryz.ntmps117
 go_wp2
 go_ret
 exact ⟨rfl, rfl⟩
theorem step_later (h : Rep w S p gn gs nc sc n vw cs nowb safeb L off true ah) (h0 : 0 < ah) (h1 : ah ≤ 9223372036854775807) :
   Calls Tryz.prog 117 #[.pointer (some ⟨p, 0, none⟩)] w fun x w' => x = .returned (er 0) ∧ w' = w.setCell ⟨p, 5, none⟩ (.int .i64 (ah - 1)) := by
 obtain ⟨-, -, -, -, c4, c5, cf⟩ := h.cells
 have cf5 := cf 5
 clear h cf
 go_enter Tryz.func117, Tryz.ntmps117
 go_wp2
 go_ret
 exact ⟨rfl, rfl⟩
theorem step_now (h : Rep w S p gn gs nc sc n vw cs nowb safeb L off true ah) (h0 : ah = 0) :
   Calls Tryz.prog 117 #[.pointer (some ⟨p, 0, none⟩)] w fun x w' => x = .returned (er 13) ∧ w' = w.setCell ⟨p, 3, none⟩ (.bool true) := by
 subst h0
 obtain ⟨-, -, -, c3, c4, c5, cf⟩ := h.cells
 have cf3 := cf 3
 clear h cf
 go_enter Tryz.func117, Tryz.ntmps117
 go_wp2
 go_ret
 exact ⟨rfl, rfl⟩
end
end
section
structure ConE (C : ConD) : Prop where
 cSize : ∀ (w : World) (S : Nat → Prop) (p : Nat) (d : Dk), C.DK w S p d → Calls Tryz.prog 36 #[.pointer (some ⟨p, 0, none⟩)] w fun x w' => x = .returned (.int .i64 (d.B.length : Int)) ∧ Below w.heap.size w w'
 cDown : ∀ (w : World) (S : Nat → Prop) (p : Nat) (d : Dk), C.DK w S p d → Calls Tryz.prog 21 #[.pointer (some ⟨p, 0, none⟩)] w fun x w' => x = .returned (.bool d.off) ∧ Below w.heap.size w w'
 cArm : ∀ (w : World) (S : Nat → Prop) (p : Nat) (d : Dk) (n : Int), C.DK w S p d → inI n → Calls Tryz.prog 20 #[.pointer (some ⟨p, 0, none⟩), .int .i64 n] w fun r w' => ∃ S', r = .returned (er (armE n)) ∧ C.DK w' S' p (armD d n) ∧ Turn S S' w w'
variable {C : ConD} {w0 w w' : World} {S S' : Nat → Prop} {p : Nat} {d : Dk}
end
end Go.Proofs.YtncaefocijainaaGreatDoor.pk
