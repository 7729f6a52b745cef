import Derived.Test.YtncaefocijainaaGreatDoorG01
import Derived.Laws.CopyOwn
namespace Go.Proofs.YtncaefocijainaaGreatDoor.pk
section
open Go
def backL (now s : List UInt8) : List (Nat × List UInt8) → List UInt8
 | [] => now
 | x :: l => backL (put1 now x.1 ((s.drop x.1).take x.2.length)) s l
theorem backL_append (s : List UInt8) : ∀ (l r : List (Nat × List UInt8)) (b : List UInt8), backL b s (l ++ r) = backL (backL b s l) s r
 | [], _, _ => rfl
 | _ :: l, r, _ => backL_append s l r _
theorem backL_next (b s : List UInt8) (L : List (Nat × List UInt8)) (k : Nat) (h : k < L.length) : backL b s (L.take (k + 1)) = put1 (backL b s (L.take k)) L[k].1 ((s.drop L[k].1).take L[k].2.length) := by
 rw [List.take_succ_eq_append_getElem h, backL_append]
 rfl
theorem nowL_next (b : List UInt8) (L : List (Nat × List UInt8)) (k : Nat) (h : k < L.length) : nowL b (L.take (k + 1)) = put1 (nowL b (L.take k)) L[k].1 L[k].2 := by
 rw [List.take_succ_eq_append_getElem h, nowL_append]
 rfl
def Cover (L : List (Nat × List UInt8)) (j : Nat) : Prop := ∃ x ∈ L, x.1 ≤ j ∧ j < x.1 + x.2.length
theorem list_getD_ext {a b : List UInt8} (hl : a.length = b.length) (h : ∀ j, j < a.length → a.getD j 0 = b.getD j 0) : a = b := by
 apply List.ext_getElem hl
 intro j h1 h2
 have := h j h1
 simpa [List.getD, List.getElem?_eq_getElem h1, List.getElem?_eq_getElem h2] using this
theorem nowL_away : ∀ (L : List (Nat × List UInt8)) (b : List UInt8) (j : Nat), (∀ x ∈ L, x.1 + x.2.length ≤ b.length) → ¬ Cover L j → (nowL b L).getD j 0 = b.getD j 0
 | [], _, _, _, _ => rfl
 | x :: l, b, j, h, hc => by
   have h0 := h x (List.mem_cons_self ..)
   unfold nowL
   rw [nowL_away l _ j (fun v hv => by rw [put1_len h0]; exact h v (List.mem_cons_of_mem _ hv)) (fun ⟨v, hv, hj⟩ => hc ⟨v, List.mem_cons_of_mem _ hv, hj⟩), put1_get h0, if_neg (fun hj => hc ⟨x, List.mem_cons_self .., hj⟩)]
theorem cut_len {s : List UInt8} {a m : Nat} (h : a + m ≤ s.length) : ((s.drop a).take m).length = m := by
 rw [List.length_take, List.length_drop]; omega
theorem backL_len (s : List UInt8) : ∀ (L : List (Nat × List UInt8)) (b : List UInt8), (∀ x ∈ L, x.1 + x.2.length ≤ b.length) → s.length = b.length → (backL b s L).length = b.length
 | [], _, _, _ => rfl
 | x :: l, b, h, hs => by
   have h0 := h x (List.mem_cons_self ..)
   have hc : ((s.drop x.1).take x.2.length).length = x.2.length := cut_len (by omega)
   have hp : (put1 b x.1 ((s.drop x.1).take x.2.length)).length = b.length := put1_len (by rw [hc]; exact h0)
   unfold backL
   rw [backL_len s l _ (fun v hv => by rw [hp]; exact h v (List.mem_cons_of_mem _ hv)) (by rw [hp]; exact hs), hp]
theorem backL_get (s : List UInt8) : ∀ (L : List (Nat × List UInt8)) (b : List UInt8) (j : Nat), (∀ x ∈ L, x.1 + x.2.length ≤ b.length) → s.length = b.length →
   (Cover L j → (backL b s L).getD j 0 = s.getD j 0) ∧ (¬ Cover L j → (backL b s L).getD j 0 = b.getD j 0)
 | [], _, _, _, _ => ⟨fun ⟨_, hx, _⟩ => (by cases hx), fun _ => rfl⟩
 | x :: l, b, j, h, hs => by
   have h0 := h x (List.mem_cons_self ..)
   have hc : ((s.drop x.1).take x.2.length).length = x.2.length := cut_len (by omega)
   have hp : (put1 b x.1 ((s.drop x.1).take x.2.length)).length = b.length := put1_len (by rw [hc]; exact h0)
   obtain ⟨i1, i2⟩ := backL_get s l (put1 b x.1 ((s.drop x.1).take x.2.length)) j (fun v hv => by rw [hp]; exact h v (List.mem_cons_of_mem _ hv)) (by rw [hp]; exact hs)
   have hg := put1_get (b := b) (at_ := x.1) (x := (s.drop x.1).take x.2.length) (by rw [hc]; exact h0) j
   rw [hc] at hg
   unfold backL
   by_cases hl : Cover l j
   · refine ⟨fun _ => i1 hl, fun hn => absurd ?_ hn⟩
     obtain ⟨v, hv, hj⟩ := hl
     exact ⟨v, List.mem_cons_of_mem _ hv, hj⟩
   · rw [i2 hl, hg]
     by_cases hx : x.1 ≤ j ∧ j < x.1 + x.2.length
     · rw [if_pos hx]
       refine ⟨fun _ => ?_, fun hn => absurd ⟨x, List.mem_cons_self .., hx⟩ hn⟩
       simp only [List.getD, List.getElem?_take, List.getElem?_drop]
       rw [if_pos (by omega), show x.1 + (j - x.1) = j by omega]
     · rw [if_neg hx]
       refine ⟨fun ⟨v, hv, hj⟩ => ?_, fun _ => rfl⟩
       rcases List.mem_cons.1 hv with rfl | hv
       · exact absurd hj hx
       · exact absurd ⟨v, hv, hj⟩ hl
theorem backL_now (b : List UInt8) (L K : List (Nat × List UInt8)) (h : ∀ x ∈ L, x.1 + x.2.length ≤ b.length) (hk : ∀ x ∈ K, x.1 + x.2.length ≤ b.length) (hc : ∀ j, Cover K j → Cover L j) : backL (nowL b L) (nowL b K) L = nowL b K := by
 have l1 : (nowL b L).length = b.length := nowL_len h
 have l2 : (nowL b K).length = b.length := nowL_len hk
 have h' : ∀ x ∈ L, x.1 + x.2.length ≤ (nowL b L).length := by rw [l1]; exact h
 refine list_getD_ext (by rw [backL_len _ _ _ h' (by rw [l1, l2]), l1, l2]) fun j _ => ?_
 obtain ⟨i1, i2⟩ := backL_get (nowL b K) L (nowL b L) j h' (by rw [l1, l2])
 by_cases hj : Cover L j
 · exact i1 hj
 · rw [i2 hj, nowL_away L b j h hj, nowL_away K b j hk (fun hx => hj (hc j hx))]
def partL (L : List (Nat × List UInt8)) (whole part : Nat) : List (Nat × List UInt8) := L.take whole ++ ((L.drop whole).take 1).map fun w => (w.1, w.2.take part)
theorem partL_mem {L : List (Nat × List UInt8)} {whole part : Nat} {x : Nat × List UInt8} (h : x ∈ partL L whole part) : ∃ y ∈ L, x.1 = y.1 ∧ x.2.length ≤ y.2.length := by
 unfold partL at h
 rcases List.mem_append.1 h with h | h
 · exact ⟨x, List.mem_of_mem_take h, rfl, Nat.le_refl _⟩
 · obtain ⟨v, hv, rfl⟩ := List.mem_map.1 h
   exact ⟨v, List.mem_of_mem_drop (List.mem_of_mem_take hv), rfl, by simp only [List.length_take]; omega⟩
theorem partL_cover {L : List (Nat × List UInt8)} {whole part : Nat} (j : Nat) (h : Cover (partL L whole part) j) : Cover L j := by
 obtain ⟨x, hx, h1, h2⟩ := h
 obtain ⟨y, hy, e1, e2⟩ := partL_mem hx
 exact ⟨y, hy, by omega, by omega⟩
theorem partL_all (L : List (Nat × List UInt8)) (part : Nat) : partL L L.length part = L := by simp [partL]
theorem partL_next (b : List UInt8) (L : List (Nat × List UInt8)) (whole part : Nat) (h : whole < L.length) : nowL b (partL L whole part) = put1 (nowL b (L.take whole)) L[whole].1 (L[whole].2.take part) := by
 unfold partL
 rw [nowL_append, List.drop_eq_getElem_cons h]
 rfl
theorem partL_kept (L : List (Nat × List UInt8)) (keep : List Int) (part : Nat) (h : ∀ h : restK keep 0 (L.length + 1) < L.length, part = restK keep 1 ((L[restK keep 0 (L.length + 1)]'h).2.length + 1)) : partL L (restK keep 0 (L.length + 1)) part = keptL L keep := by
 unfold partL keptL
 by_cases hw : restK keep 0 (L.length + 1) < L.length
 · rw [List.drop_eq_getElem_cons hw]
   simp only [List.take_succ_cons, List.take_zero, List.map_cons, List.map_nil]
   rw [← h hw]
 · rw [List.drop_eq_nil_of_le (by omega)]
   rfl
theorem splice_put {α : Type} (f : UInt8 → α) (b x : List UInt8) (at_ : Nat) : splice (b.map f) at_ (x.map f) = (put1 b at_ x).map f := by
 simp [splice, put1, List.map_take, List.map_drop]
end
end Go.Proofs.YtncaefocijainaaGreatDoor.pk
