/-
  The program's own members: Add; how far somebody is; what is agreed.
-/
import Derived.Test.YtgnonfnipifbiaaDoorHc4
namespace Go.Proofs.YtgnonfnipifbiaaDoor.pk
open Go Go.RowKit
set_option maxRecDepth 100000

theorem ins_perm {who : Int} : ∀ (c : List Int), (insC who c).Perm (who :: c)
  | [] => List.Perm.refl _
  | x :: r => by
    unfold insC
    by_cases h : x < who
    · rw [if_pos h]
      exact ((ins_perm r).cons x).trans (List.Perm.swap who x r)
    · rw [if_neg h]
theorem ins_sorted {who : Int} {c ts : List Int} (hm : mayC c = true) (hw : ¬ who ∈ c) (hp : ts.Perm (c ++ [who])) (hs : ts.Pairwise (fun x y => x ≤ y)) : ts = insC who c := by
  refine List.Perm.eq_of_pairwise (fun a b _ _ h1 h2 => Int.le_antisymm h1 h2) hs ((ins_pw (mayC_pw ((mayC_iff c).1 hm)) hw).imp fun h => Int.le_of_lt h) (hp.trans ?_)
  exact (List.perm_append_comm (l₁ := c) (l₂ := [who])).trans (ins_perm c).symm

set_option maxHeartbeats 4000000 in
theorem Add_own (A : Option Addr) (m c : Nat) (zs : List Int) (who : Int) (w : World) (h : Ints w (.slice A m c) zs) (hwi : inI who) (r : List Int × Nat) (hr : r = addC zs who) :
    Calls Tryd.prog 6 #[.slice A m c, .int .i64 who] w fun y w' => ∃ A1 c1, y = .returned (.tuple #[.slice A1 r.1.length c1, er r.2]) ∧ Ints w' (.slice A1 r.1.length c1) r.1 ∧ Below w.heap.size w w' := by
  have C := Lib.hid (may_own A m c zs w h _ rfl)
  unfold addC at hr
  by_cases hb : mayC zs = false ∨ who < 1 ∨ 64 < who
  · rw [if_pos hb] at hr
    subst hr
    have hb' : mayC zs = false ∨ (mayC zs = true ∧ who < 1) ∨ (mayC zs = true ∧ ¬ who < 1 ∧ 64 < who) := by
      cases hm : mayC zs with
      | false => exact Or.inl rfl
      | true =>
        rw [hm] at hb
        rcases hb with hb | hb | hb
        · cases hb
        · exact Or.inr (Or.inl ⟨rfl, hb⟩)
        · exact Or.inr (Or.inr ⟨rfl, by omega, hb⟩)
    clear hb h
    rcases hb' with hm | ⟨hm, h1⟩ | ⟨hm, h1, h2⟩
    all_goals
      rw [hm] at C
      clear hm
      go_enter Tryd.func6, Tryd.ntmps6
      go_wp2_with (go_at_call 18; go_must (refine C.out.mono ?_; rintro y w1 ⟨rfl, rfl⟩))
      go_ret2
      exact ⟨none, 0, rfl, Ints.nil_ _, Below.refl _ _⟩
  · rw [if_neg hb] at hr
    have hm : mayC zs = true := by
      cases hm : mayC zs with
      | false => exact absurd (Or.inl hm) hb
      | true => rfl
    rw [hm] at C
    have w1 : ¬ who < 1 := fun e => hb (Or.inr (Or.inl e))
    have w2 : ¬ 64 < who := fun e => hb (Or.inr (Or.inr e))
    have hmm := h.len_le
    have h7 := ((mayC_iff zs).1 hm).1
    have K := Lib.hid (IndexC_has A m c zs who w h _ rfl)
    by_cases hx : who ∈ zs
    · rw [if_pos hx] at hr
      subst hr
      rw [decide_eq_true hx] at K
      clear hb h hm h7 hmm hx
      go_enter Tryd.func6, Tryd.ntmps6
      go_wp2_with (first
        | (go_at_call 18; go_must (refine C.out.mono ?_; rintro y w3 ⟨rfl, rfl⟩))
        | (go_at_call 19; go_must (refine K.out.mono ?_; rintro y w3 ⟨rfl, rfl⟩)))
      go_ret2
      exact ⟨none, 0, rfl, Ints.nil_ _, Below.refl _ _⟩
    · rw [if_neg hx] at hr
      rw [decide_eq_false hx] at K
      by_cases hf : 6 < zs.length
      · rw [if_pos hf] at hr
        subst hr
        have m7 : (m : Int) = 7 := by omega
        have m7' : m = 7 := by omega
        subst m7'
        clear hb h hm h7 hmm hx hf m7
        go_enter Tryd.func6, Tryd.ntmps6
        go_wp2_with (first
          | (go_at_call 18; go_must (refine C.out.mono ?_; rintro y w3 ⟨rfl, rfl⟩))
          | (go_at_call 19; go_must (refine K.out.mono ?_; rintro y w3 ⟨rfl, rfl⟩)))
        go_ret2
        exact ⟨none, 0, rfl, Ints.nil_ _, Below.refl _ _⟩
      · rw [if_neg hf] at hr
        subst hr
        have m7 : ¬ (m : Int) = 7 := by omega
        have CL := Lib.hid (clone_own A m c zs w h (by omega) (by omega))
        obtain ⟨i0, hi, hz0, hz1, hz2⟩ := info_three info_int
        have HI := Lib.hid (And.intro hi (And.intro hz0 (And.intro hz1 hz2)))
        have HN := Lib.hid (And.intro hmm (And.intro hm (And.intro hx (And.intro h.2 (And.intro hwi (show m ≤ 6 by omega))))))
        clear hb h hm h7 hmm hx hf hi hz0 hz1 hz2 hwi
        go_enter Tryd.func6, Tryd.ntmps6
        go_upto_region 8 with (first
          | (go_at_call 18; go_must (refine C.out.mono ?_; rintro y w3 ⟨rfl, rfl⟩))
          | (go_at_call 19; go_must (refine K.out.mono ?_; rintro y w3 ⟨rfl, rfl⟩))
          | (go_at_call 20; go_must (refine CL.out.mono ?_; rintro y w3 ⟨g, cc, rfl, ho, hb2⟩; have HB2 := Lib.hid (And.intro ho hb2); clear ho hb2))
          | (at_builtin; go_must (refine wpList_append_row rfl _ _ 24 rfl w.heap.size 3 i0 _ 1 8 Tryd.underlying24 HI.out.1 HI.out.2.1 HI.out.2.2.1 HI.out.2.2.2 rfl (by omega) (.slice (some ⟨g, 0, none⟩) m cc) m (zs.map (Value.int .i64)) rfl (HB2.out.1.alloc _) (fun _ => True) (some ⟨w3.heap.size, 0, none⟩) 1 1 [.int .i64 who] rfl (RowT.lit (heap_alloc_new w3 _) (by rfl) (by omega)) ?c1 ?c2 ?c3 ?c4 ?c5)))
        case c1 => intro u hu; rw [List.mem_singleton.1 hu]; rfl
        case c2 => have := HN.out.2.2.2.2.2; simp only [maxLen]; omega
        case c3 => have := HN.out.2.2.2.2.2; omega
        case c4 => have := HB2.out.2.size; rw [World.size_alloc]; omega
        case c5 =>
          intro v' w4 ho hg
          have hb4 := (HB2.out.2.alloc HB2.out.2.size (.cells #[.int .i64 who] 3)).grown hg (by have := HB2.out.2.size; rw [World.size_alloc]; omega) (fun k hk => (HB2.out.1.lt k hk).1)
          have ho' : w4.ownsRow w.heap.size 3 1 v' (m + 1) ((zs ++ [who]).map (Value.int .i64)) := by rw [List.map_append]; exact ho
          have hnil : v' ≠ .slice none 0 0 := by
            intro e
            subst e
            rcases ho.2 with ⟨_, e⟩ | ⟨g, cap, cur, e, _⟩
            · omega
            · cases e
          obtain ⟨g', k', rfl, -⟩ := Lib.holds_of_ownsRow ho' hnil
          have HF := Lib.hid (And.intro ho' hb4)
          clear ho ho' hg hb4 hnil
          go_wp2_with (go_at_call 21; go_must (refine (SortC_own w.heap.size g' (m + 1) k' (zs ++ [who]) w4 HF.out.1 (by rw [List.length_append, ← HN.out.1]; rfl) (by have := HN.out.2.2.2.2.2; omega)).mono ?_; rintro y w5 ⟨rfl, ts, hp, hs, ho5, hb5⟩; have H5 := Lib.hid (And.intro hp (And.intro hs (And.intro ho5 hb5))); clear hp hs ho5 hb5))
          go_ret2
          have hts := ins_sorted HN.out.2.1 HN.out.2.2.1 H5.out.1 H5.out.2.1
          have hl : m + 1 = (insC who zs).length := by rw [ins_len, ← HN.out.1]
          have h5 := H5.out.2.2.1
          rw [hts, hl] at h5
          refine ⟨_, _, by rw [hl]; rfl, Ints.of_own h5 fun z hz => ?_, HF.out.2.trans H5.out.2.2.2⟩
          rcases ins_mem.1 hz with rfl | hz
          · exact HN.out.2.2.2.2.1
          · exact HN.out.2.2.2.1 z hz

/-- How far somebody is, by the first marks. -/
def farB (who : Int) (b : Int) (l : List (Int × Int)) : Int := l.foldl (fun b m => if m.1 = who then max b m.2 else b) b
def farK (l : List (Int × Int)) (who : Int) (k : Nat) : Int := farB who 0 (l.take k)
theorem farK_next {l : List (Int × Int)} {who : Int} {k : Nat} (h : k < l.length) : farK l who (k + 1) = if (l.getD k (0, 0)).1 = who then max (farK l who k) (l.getD k (0, 0)).2 else farK l who k := by
  unfold farK farB
  rw [take_next h, List.foldl_append]
  simp [List.getD, List.getElem?_eq_getElem h]
theorem farK_all {l : List (Int × Int)} {who : Int} {k : Nat} (h : l.length ≤ k) : farK l who k = farB who 0 l := by unfold farK; rw [List.take_of_length_le h]
theorem farB_le {who n : Int} : ∀ (l : List (Int × Int)) (b : Int), n ≤ farB who b l ↔ n ≤ b ∨ ∃ m ∈ l, m.1 = who ∧ n ≤ m.2
  | [], b => by simp [farB]
  | x :: r, b => by
    have e : farB who b (x :: r) = farB who (if x.1 = who then max b x.2 else b) r := rfl
    rw [e, farB_le r]
    by_cases h : x.1 = who
    · rw [if_pos h]
      constructor
      · rintro (h1 | ⟨m, hm, h2⟩)
        · rcases Int.le_total b x.2 with h3 | h3
          · rw [Int.max_eq_right h3] at h1; exact Or.inr ⟨x, List.mem_cons_self .., h, h1⟩
          · rw [Int.max_eq_left h3] at h1; exact Or.inl h1
        · exact Or.inr ⟨m, List.mem_cons_of_mem _ hm, h2⟩
      · rintro (h1 | ⟨m, hm, h2⟩)
        · exact Or.inl (Int.le_trans h1 (Int.le_max_left ..))
        · rcases List.mem_cons.1 hm with rfl | hm
          · exact Or.inl (Int.le_trans h2.2 (Int.le_max_right ..))
          · exact Or.inr ⟨m, hm, h2⟩
    · rw [if_neg h]
      constructor
      · rintro (h1 | ⟨m, hm, h2⟩)
        · exact Or.inl h1
        · exact Or.inr ⟨m, List.mem_cons_of_mem _ hm, h2⟩
      · rintro (h1 | ⟨m, hm, h2⟩)
        · exact Or.inl h1
        · rcases List.mem_cons.1 hm with rfl | hm
          · exact absurd h2.1 h
          · exact Or.inr ⟨m, hm, h2⟩
theorem farB_low (who : Int) (l : List (Int × Int)) : 0 ≤ farB who 0 l := (farB_le l 0).2 (Or.inl (Int.le_refl _))
theorem far_at {l : List (Int × Int)} {who n : Int} (h : 0 < n) : n ≤ farB who 0 l ↔ who ∈ atLeast l n := by
  rw [farB_le]
  unfold atLeast
  simp only [List.mem_map, List.mem_filter, decide_eq_true_eq]
  constructor
  · rintro (h1 | ⟨m, hm, h2, h3⟩)
    · omega
    · exact ⟨m, ⟨hm, h3⟩, h2⟩
  · rintro ⟨m, ⟨hm, h3⟩, h2⟩
    exact Or.inr ⟨m, hm, h2, h3⟩
/-- The middle one of a sorted row tells what more than half have. -/
theorem med_count {S : List Int} (hs : S.Pairwise (fun x y => x ≤ y)) (h0 : 0 < S.length) (n : Int) : S.length < 2 * S.countP (fun x => decide (n ≤ x)) ↔ n ≤ S.getD ((S.length - 1) / 2) 0 := by
  obtain ⟨h, hh⟩ : ∃ h, h = (S.length - 1) / 2 := ⟨_, rfl⟩
  have hl : h < S.length := by omega
  rw [← hh]
  have hv : S.getD h 0 = S[h] := by simp [List.getD, List.getElem?_eq_getElem hl]
  rw [hv]
  have hmono : ∀ i j (hi : i < S.length) (hj : j < S.length), i ≤ j → S[i] ≤ S[j] := fun i j hi hj hij => by
    rcases Nat.eq_or_lt_of_le hij with rfl | hlt
    · exact Int.le_refl _
    · exact List.pairwise_iff_getElem.1 hs i j hi hj hlt
  by_cases hn : n ≤ S[h]
  · refine ⟨fun _ => hn, fun _ => ?_⟩
    have e : S.countP (fun x => decide (n ≤ x)) = (S.take h).countP (fun x => decide (n ≤ x)) + (S.drop h).countP (fun x => decide (n ≤ x)) := by
      rw [← List.countP_append, List.take_append_drop]
    have e2 : (S.drop h).countP (fun x => decide (n ≤ x)) = (S.drop h).length := by
      refine List.countP_eq_length.2 fun a ha => decide_eq_true ?_
      obtain ⟨i, hi, rfl⟩ := List.getElem_of_mem ha
      rw [List.length_drop] at hi
      rw [List.getElem_drop]
      exact Int.le_trans hn (hmono h (h + i) hl (by omega) (by omega))
    rw [e, e2, List.length_drop]
    omega
  · refine ⟨fun hc => absurd hc ?_, fun hc => absurd hc hn⟩
    have e : S.countP (fun x => decide (n ≤ x)) = (S.take (h + 1)).countP (fun x => decide (n ≤ x)) + (S.drop (h + 1)).countP (fun x => decide (n ≤ x)) := by
      rw [← List.countP_append, List.take_append_drop]
    have e2 : (S.take (h + 1)).countP (fun x => decide (n ≤ x)) = 0 := by
      refine List.countP_eq_zero.2 fun a ha hd => ?_
      obtain ⟨i, hi, rfl⟩ := List.getElem_of_mem ha
      rw [List.length_take] at hi
      rw [List.getElem_take] at hd
      exact hn (Int.le_trans (of_decide_eq_true hd) (hmono i h (by omega) hl (by omega)))
    have e3 : (S.drop (h + 1)).countP (fun x => decide (n ≤ x)) ≤ S.length - (h + 1) := by
      rw [← List.length_drop]
      exact List.countP_le_length
    omega
theorem fold_from (c : List Int) (l : List (Int × Int)) : ∀ (r : List (Int × Int)) (b : Int), r.foldl (stepC c l) b = b ∨ ∃ m ∈ r, r.foldl (stepC c l) b = m.2
  | [], b => Or.inl rfl
  | x :: r, b => by
    rw [List.foldl_cons]
    rcases fold_from c l r (stepC c l b x) with h | ⟨m, hm, h⟩
    · rw [h]
      unfold stepC
      by_cases hx : b < x.2 ∧ quorumC c (atLeast l x.2) = true
      · rw [if_pos hx]; exact Or.inr ⟨x, List.mem_cons_self .., rfl⟩
      · rw [if_neg hx]; exact Or.inl rfl
    · exact Or.inr ⟨m, List.mem_cons_of_mem _ hm, h⟩
/-- WHAT IS AGREED is the middle one of how far the members are. -/
theorem agreed_med {c : List Int} {l : List (Int × Int)} {S : List Int} (hm : mayC c = true) (hp : S.Perm (c.map fun who => farB who 0 l)) (hs : S.Pairwise (fun x y => x ≤ y)) : agreedC c l = S.getD ((S.length - 1) / 2) 0 := by
  have h7 := ((mayC_iff c).1 hm).1
  have hlen : S.length = c.length := by rw [hp.length_eq, List.length_map]
  obtain ⟨v, hv⟩ : ∃ v, v = S.getD ((S.length - 1) / 2) 0 := ⟨_, rfl⟩
  have hq : ∀ n : Int, 0 < n → (quorumC c (atLeast l n) = true ↔ n ≤ v) := fun n h0 => by
    rw [hv, ← med_count hs (by omega) n, hlen, hp.countP_eq, List.countP_map]
    unfold quorumC cntC
    rw [hm, Bool.true_and, decide_eq_true_eq, ← List.countP_eq_length_filter]
    have e : c.countP (fun x => decide (x ∈ atLeast l n)) = c.countP ((fun x => decide (n ≤ x)) ∘ fun who => farB who 0 l) := by
      congr 1
      funext x
      simp only [Function.comp, decide_eq_decide]
      exact (far_at h0).symm
    rw [e]
  have hvm : v ∈ S := by rw [hv]; exact getD_mem (by omega)
  obtain ⟨x, -, hx⟩ := List.mem_map.1 (hp.mem_iff.1 hvm)
  have hv0 : 0 ≤ v := by rw [← hx]; exact farB_low _ _
  rw [← hv]
  have ha0 := agreed_low c l
  refine Int.le_antisymm ?_ ?_
  · rcases fold_from c l l 0 with h | ⟨m, hmm, h⟩
    · have e : agreedC c l = 0 := h
      omega
    · have e : agreedC c l = m.2 := h
      by_cases h0 : 0 < m.2
      · have h1 := agreed_at hmm h0 (c := c)
        rw [e, decide_eq_true (Int.le_refl _)] at h1
        rw [e]
        exact (hq m.2 h0).1 h1
      · omega
  · by_cases h0 : 0 < v
    · have h1 : v ≤ farB x 0 l := by rw [hx]; exact Int.le_refl _
      rcases (farB_le l 0).1 h1 with h2 | ⟨m, hmm, h2, h3⟩
      · omega
      · have h4 : m.2 ≤ v := by rw [← hx]; exact (farB_le l 0).2 (Or.inr ⟨m, hmm, h2, Int.le_refl _⟩)
        have e : m.2 = v := by omega
        have h5 := agreed_at (c := c) hmm (by omega)
        rw [e, (hq v h0).2 (Int.le_refl _)] at h5
        exact of_decide_eq_true h5.symm
    · omega

end Go.Proofs.YtgnonfnipifbiaaDoor.pk
