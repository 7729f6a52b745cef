import Derived.Test.YtncaefocijainaaGreatDoorG08
import Derived.Laws.CopyOwn
namespace Go.Proofs.YtncaefocijainaaGreatDoor.pk
section
open Go Go.RowKit
theorem take_splice {α : Type} (A : List α) (off n : Nat) (cs : List α) (h : off + cs.length ≤ n) (hn : n ≤ A.length) : (A.take off ++ (cs ++ A.drop (off + cs.length))).take n = splice (A.take n) off cs := by
 unfold splice
 apply List.ext_getElem?
 intro j
 have e1 : min off A.length = off := by omega
 have e2 : min off (min n A.length) = off := by omega
 simp only [List.getElem?_take, List.getElem?_append, List.length_take, List.getElem?_drop, e1, e2]
 (repeat' split) <;> first | rfl | (exfalso; omega) | (congr 1; omega)
theorem run_copy_rowE {P : Program} (w : World) (dT sT ty elem : TypeId) (hu : P.underlying dT = some (.slice elem)) (hs : (P.info? elem).map (·.size) = some 1) (base g n cap : Nat) (xs : List Value)
   (hown : w.ownsRow base elem 1 (.slice (some ⟨g, 0, none⟩) n cap) n xs) (dp sp : Option Addr) (dLen dCap sLen sCap off : Nat) (cs : List Value) (hn : cs.length = Nat.min sLen dLen)
   (hpos : 0 < cs.length → dp = some ⟨g, off, none⟩ ∧ ∃ ad, sp = some ad ∧ ∀ j v, cs[j]? = some v → w.cell? (ad.add j) = some v) (hfit : off + cs.length ≤ n) (h1 : ∀ v ∈ cs, v.oneCell' = true) :
   ∃ w', (Builtin.copy_ #[dT, sT] ty #[.slice dp dLen dCap, .slice sp sLen sCap]).run P w = .ok (goInt cs.length) w' ∧ w'.ownsRow base elem 1 (.slice (some ⟨g, 0, none⟩) n cap) n (splice xs off cs) ∧ w.grownBy w' (some g) := by
 by_cases h0 : cs.length = 0
 · obtain rfl : cs = [] := List.eq_nil_of_length_eq_zero h0
   refine ⟨w, run_copy_none (P := P) w dT sT ty elem dp sp dLen dCap sLen sCap hu hs (by simpa using hn.symm), ?_, World.grownBy.refl w _⟩
   simpa [splice] using hown
 · obtain ⟨rfl, ad, rfl, hsrc⟩ := hpos (by omega)
   obtain ⟨hxl, hr⟩ := hown
   rcases hr with ⟨hv, _⟩ | ⟨g', cap', cur, hv, hb, hg, hnc, hcm, hcs, htk⟩
   · cases hv
   · injection hv with e1 e2 e3
     injection e1 with e1
     injection e1 with e1
     subst e1; subst e3
     have hl : cur.toList.length = cap * 1 := by simpa using hcs
     have hrun := run_copy_row (P := P) w dT sT ty elem g off dLen dCap ad sLen sCap cur elem cs hu hs hg hn hsrc (by omega) h1
     refine ⟨_, hrun, ⟨?_, Or.inr ⟨g, cap, _, rfl, hb, setRow_heap w g _ _ elem _ hg, hnc, hcm, ?_, ?_⟩⟩, ?_⟩
     · rw [length_splice _ _ _ (by omega)]; exact hxl
     · simp only [List.size_toArray, List.length_append, List.length_take, List.length_drop]
       omega
     · rw [List.append_assoc, Nat.mul_one]
       have := take_splice cur.toList off n cs hfit (by omega)
       simp only [Nat.mul_one] at htk
       rw [htk] at this
       simpa using this
     · exact ⟨rfl, rfl, rfl, by simp [World.setRow], fun k _ hk => setRow_other w g k _ (fun e => hk (by rw [e]))⟩
theorem wpList_copy_rowE {P : Program} {w : World} {ops : Array Oper} {rest : List Oper} {o : Oper} {a : Act} {Q : Exit → Act → World → Prop} (hgd : o.guard = none) (d s : Operand) (dT sT : TypeId)
   (ho : o.op = .call { callee := .builtin .copy, args := #[d, s], argTypes := #[dT, sT] }) (elem : TypeId) (hu : P.underlying dT = some (.slice elem)) (hsz : (P.info? elem).map (·.size) = some 1)
   (base g n cap : Nat) (xs : List Value) (hown : w.ownsRow base elem 1 (.slice (some ⟨g, 0, none⟩) n cap) n xs)
   (dp sp : Option Addr) (dLen dCap sLen sCap : Nat) (hd : a.eval d = .slice dp dLen dCap) (hs : a.eval s = .slice sp sLen sCap)
   (off : Nat) (cs : List Value) (hn : cs.length = Nat.min sLen dLen)
   (hpos : 0 < cs.length → dp = some ⟨g, off, none⟩ ∧ ∃ ad, sp = some ad ∧ ∀ j v, cs[j]? = some v → w.cell? (ad.add j) = some v) (hfit : off + cs.length ≤ n) (h1 : ∀ v ∈ cs, v.oneCell' = true)
   (hK : ∀ w', w'.ownsRow base elem 1 (.slice (some ⟨g, 0, none⟩) n cap) n (splice xs off cs) → w.grownBy w' (some g) → wpList P ops Q rest (a.put o.dst (goInt cs.length)) w') : wpList P ops Q (o :: rest) a w :=
 wpList_plain hgd fun K hK' => by
   obtain ⟨w', hrun, h2, h3⟩ := run_copy_rowE (P := P) w dT sT o.type elem hu hsz base g n cap xs hown dp sp dLen dCap sLen sCap off cs hn hpos hfit h1
   unfold Oper.wp
   simp [execOp, ho, resolve, invoke, builtin, hd, hs, hrun, Result.andThen]
   exact hK' _ _ (hK w' h2 h3)
theorem run_clear_rowE {P : Program} (w : World) (t ty e : TypeId) (i : TypeInfo) (z : Value) (size : Nat) (ht : P.underlying t = some (.slice e)) (hi : P.info? e = some i) (hz : i.zero = some z) (hzs : z.cells.size = size)
   (h1 : ∀ v ∈ z.cells, v.oneCell' = true) (base n : Nat) (v : Value) (xs : List Value) (hown : w.ownsRow base e size v n xs) :
   ∃ w' ys, (Builtin.clear_ #[t] ty #[v]).run P w = .ok (.tuple #[]) w' ∧ w'.ownsRow base e size v n ys ∧ w.grownBy w' v.ownBlock := by
 obtain ⟨hxl, hr⟩ := hown
 rcases hr with ⟨rfl, rfl⟩ | ⟨g, cap, cur, rfl, hb, hg, hnc, hcm, hcs, htk⟩
 · exact ⟨w, xs, by simp [Builtin.clear_, run_underlying ht], ⟨hxl, Or.inl ⟨rfl, rfl⟩⟩, World.grownBy.refl w _⟩
 · by_cases h0 : n = 0
   · subst h0
     exact ⟨w, xs, by simp [Builtin.clear_, run_underlying ht], ⟨hxl, Or.inr ⟨g, cap, cur, rfl, hb, hg, hnc, hcm, hcs, htk⟩⟩, World.grownBy.refl w _⟩
   · have hzl : (Builtin.zeroCells z.cells n).toList.length = n * size := by simp [Builtin.zeroCells, hzs]
     have hz1 : ∀ v ∈ (Builtin.zeroCells z.cells n).toList, v.oneCell' = true := by
       intro v hv
       by_cases hs0 : size = 0
       · rw [hs0, Nat.mul_zero] at hzl
         rw [List.eq_nil_of_length_eq_zero hzl] at hv
         cases hv
       · obtain ⟨j, hj, rfl⟩ := List.mem_iff_getElem.1 hv
         have hm : j % z.cells.size < z.cells.size := Nat.mod_lt _ (by omega)
         have : (Builtin.zeroCells z.cells n).toList[j] = z.cells[j % z.cells.size] := by
           simp [Builtin.zeroCells, hm]
         rw [this]
         exact h1 _ (Array.getElem_mem hm)
     have hcap : n * size ≤ cap * size := Nat.mul_le_mul_right _ hnc
     have hst := run_storeCells_at P g 0 e (Builtin.zeroCells z.cells n).toList 0 cur w hg (by simp only [hzl]; omega) hz1
     have hcl : cur.toList.length = cap * size := by simpa using hcs
     simp only [Nat.add_zero, Nat.zero_add, List.take_zero, List.nil_append] at hst
     refine ⟨w.setRow g ((Builtin.zeroCells z.cells n).toList ++ cur.toList.drop (Builtin.zeroCells z.cells n).toList.length).toArray, (Builtin.zeroCells z.cells n).toList, ?_, ⟨hzl, Or.inr ⟨g, cap, _, rfl, hb, setRow_heap w g _ _ e _ hg, hnc, hcm, ?_, ?_⟩⟩, ⟨rfl, rfl, rfl, by simp [World.setRow], fun k _ hk => setRow_other w g k _ (fun e => hk (by rw [e]; rfl))⟩⟩
     · obtain ⟨m, rfl⟩ : ∃ m, n = m + 1 := ⟨n - 1, by omega⟩
       have hzv : (zeroValue e).run P w = .ok z w := by simp [zeroValue, typeInfo, hi, hz]
       simp [Builtin.clear_, run_underlying ht, hzv, hst]
     · simp only [List.size_toArray, List.length_append, List.length_take, List.length_drop, hzl]
       omega
     · rw [List.take_append_of_le_length (by omega), List.take_of_length_le (by omega)]
end
end Go.Proofs.YtncaefocijainaaGreatDoor.pk
