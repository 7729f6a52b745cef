/-
  Members and majorities: who is added and removed, near ones, majorities that meet, what is agreed.
-/
import Derived.Test.YtgnonfnipifbiaaDoorPureC
namespace Go.Proofs.YtgnonfnipifbiaaDoor.pk
open Go Go.RowKit

theorem ins_mem {who : Int} : ∀ {c : List Int} {x : Int}, x ∈ insC who c ↔ x = who ∨ x ∈ c
  | [], x => by simp [insC]
  | y :: r, x => by
    unfold insC
    by_cases h : y < who
    · rw [if_pos h, List.mem_cons, ins_mem (c := r), List.mem_cons]
      constructor
      · rintro (h | h | h)
        · exact Or.inr (Or.inl h)
        · exact Or.inl h
        · exact Or.inr (Or.inr h)
      · rintro (h | h | h)
        · exact Or.inr (Or.inl h)
        · exact Or.inl h
        · exact Or.inr (Or.inr h)
    · rw [if_neg h, List.mem_cons]
theorem ins_len {who : Int} : ∀ {c : List Int}, (insC who c).length = c.length + 1
  | [] => rfl
  | y :: r => by
    unfold insC
    by_cases h : y < who
    · rw [if_pos h, List.length_cons, ins_len (c := r), List.length_cons]
    · rw [if_neg h]; rfl
theorem ins_pw {who : Int} : ∀ {c : List Int}, c.Pairwise (· < ·) → ¬ who ∈ c → (insC who c).Pairwise (· < ·)
  | [], _, _ => by simp [insC]
  | y :: r, hp, hn => by
    obtain ⟨h1, h2⟩ := List.pairwise_cons.1 hp
    unfold insC
    by_cases h : y < who
    · rw [if_pos h]
      refine List.pairwise_cons.2 ⟨fun x hx => ?_, ins_pw h2 (fun e => hn (List.mem_cons_of_mem _ e))⟩
      rcases ins_mem.1 hx with rfl | hx
      · exact h
      · exact h1 x hx
    · rw [if_neg h]
      have hy : who < y := by
        have : who ≠ y := fun e => hn (e ▸ List.mem_cons_self)
        omega
      refine List.pairwise_cons.2 ⟨fun x hx => ?_, hp⟩
      rcases List.mem_cons.1 hx with rfl | hx
      · exact hy
      · have := h1 x hx; omega
theorem filter_none {who : Int} {c : List Int} (h : ¬ who ∈ c) : c.filter (fun x => decide (x ≠ who)) = c := by
  rw [List.filter_eq_self]
  intro x hx
  exact decide_eq_true (fun e => h (e ▸ hx))
theorem ins_filter {who : Int} : ∀ {c : List Int}, ¬ who ∈ c → (insC who c).filter (fun x => decide (x ≠ who)) = c
  | [], _ => by simp [insC]
  | y :: r, hn => by
    have hy : y ≠ who := fun e => hn (e ▸ List.mem_cons_self)
    have hr : ¬ who ∈ r := fun e => hn (List.mem_cons_of_mem _ e)
    unfold insC
    by_cases h : y < who
    · rw [if_pos h, List.filter_cons_of_pos (by simp [hy]), ins_filter hr]
    · rw [if_neg h, List.filter_cons_of_neg (by simp), filter_none hn]
theorem filter_ins {who : Int} : ∀ {c : List Int}, c.Pairwise (· < ·) → who ∈ c → insC who (c.filter fun x => decide (x ≠ who)) = c
  | [], _, h => by cases h
  | y :: r, hp, h => by
    obtain ⟨h1, h2⟩ := List.pairwise_cons.1 hp
    by_cases hy : y = who
    · subst hy
      have hr : ¬ y ∈ r := fun e => by have := h1 y e; omega
      rw [List.filter_cons_of_neg (by simp), filter_none hr]
      cases r with
      | nil => rfl
      | cons z r =>
        have := h1 z List.mem_cons_self
        unfold insC
        rw [if_neg (by omega)]
    · have hw : who ∈ r := by
        rcases List.mem_cons.1 h with e | e
        · exact absurd e.symm hy
        · exact e
      have := h1 who hw
      rw [List.filter_cons_of_pos (by simp [hy])]
      unfold insC
      rw [if_pos this, filter_ins h2 hw]
theorem ins_split {who : Int} : ∀ {c : List Int} {i : Nat}, i ≤ c.length → (∀ j, j < i → c.getD j 0 < who) → (i < c.length → ¬ c.getD i 0 < who) → insC who c = c.take i ++ [who] ++ c.drop i
  | [], i, hi, _, _ => by
    obtain rfl : i = 0 := by simpa using hi
    rfl
  | y :: r, 0, _, _, h => by
    have := h (by simp)
    unfold insC
    rw [if_neg (by simpa using this)]
    rfl
  | y :: r, i + 1, hi, h1, h2 => by
    have hy : y < who := by simpa using h1 0 (by omega)
    unfold insC
    rw [if_pos hy, ins_split (i := i) (by simpa using hi) (fun j hj => by simpa using h1 (j + 1) (by omega)) (fun hj => by simpa using h2 (by simpa using hj))]
    rfl

theorem mayC_pw {c : List Int} (h : MayC c) : c.Pairwise (· < ·) := by
  have hs : ∀ d i, i + d + 1 < c.length → c.getD i 0 < c.getD (i + d + 1) 0 := by
    intro d
    induction d with
    | zero =>
      intro i hi
      have := (h.2 (i + 1) (by omega)).2.2 (by omega)
      simpa using this
    | succ d ih =>
      intro i hi
      have h1 := ih i (by omega)
      have h2 := (h.2 (i + d + 2) (by omega)).2.2 (by omega)
      have e : i + d + 2 - 1 = i + d + 1 := by omega
      rw [e] at h2
      exact Int.lt_trans h1 h2
  rw [List.pairwise_iff_getElem]
  intro i j hi hj hij
  have := hs (j - i - 1) i (by omega)
  rw [show i + (j - i - 1) + 1 = j by omega] at this
  simpa [List.getD, List.getElem?_eq_getElem hi, List.getElem?_eq_getElem hj] using this
theorem mayC_of {c : List Int} (h0 : 0 < c.length) (h8 : c.length < 8) (hr : ∀ z ∈ c, 1 ≤ z ∧ z ≤ 64) (hp : c.Pairwise (· < ·)) : mayC c = true := by
  refine (mayC_iff c).2 ⟨⟨h0, h8⟩, fun j hj => ?_⟩
  have hm := hr _ (getD_mem hj)
  refine ⟨hm.1, hm.2, fun h => ?_⟩
  have := (List.pairwise_iff_getElem.1 hp) (j - 1) j (by omega) hj (by omega)
  simpa [List.getD, List.getElem?_eq_getElem hj, List.getElem?_eq_getElem (show j - 1 < c.length by omega)] using this
theorem mayC_range {c : List Int} (h : MayC c) : ∀ z ∈ c, 1 ≤ z ∧ z ≤ 64 := by
  intro z hz
  obtain ⟨j, hj, rfl⟩ := mem_getD.1 hz
  exact ⟨(h.2 j hj).1, (h.2 j hj).2.1⟩
theorem pw_nodup {c : List Int} (h : c.Pairwise (· < ·)) : c.Nodup := h.imp fun h => by omega

theorem nodup_sub : ∀ {l m : List Int}, l.Nodup → (∀ x ∈ l, x ∈ m) → l.length ≤ m.length
  | [], m, _, _ => Nat.zero_le _
  | x :: r, m, hn, hs => by
    obtain ⟨h1, h2⟩ := List.nodup_cons.1 hn
    have hx := hs x List.mem_cons_self
    have := nodup_sub (m := m.erase x) h2 (fun y hy => by
      have hne : y ≠ x := fun e => h1 (e ▸ hy)
      exact (List.mem_erase_of_ne hne).2 (hs y (List.mem_cons_of_mem _ hy)))
    rw [List.length_erase_of_mem hx] at this
    have h0 : 0 < m.length := List.length_pos_of_mem hx
    rw [List.length_cons]
    omega

/-- Two majorities of near members have one in common. -/
theorem meetC {x y some others : List Int} (hn : nearC x y = true) (h1 : quorumC x some = true) (h2 : quorumC y others = true) : ∃ z ∈ some, z ∈ x ∧ z ∈ y ∧ z ∈ others := by
  unfold nearC at hn
  unfold quorumC at h1 h2
  simp only [Bool.and_eq_true, decide_eq_true_eq] at hn h1 h2
  obtain ⟨⟨mx, my⟩, hd⟩ := hn
  have nx := pw_nodup (mayC_pw ((mayC_iff x).1 mx))
  have ny := pw_nodup (mayC_pw ((mayC_iff y).1 my))
  refine Classical.byContradiction fun hno => ?_
  have hdis : ∀ z, z ∈ x → z ∈ some → z ∈ y → z ∈ others → False := fun z a b c d => hno ⟨z, b, a, c, d⟩
  have key : ∀ (u v su sv : List Int), u.Nodup → v.Nodup → (∀ z, z ∈ u → z ∈ su → z ∈ v → z ∈ sv → False) → cntC u su + cntC v sv ≤ u.length + diffC v u := by
    intro u v su sv nu nv hz
    have h := nodup_sub (l := u.filter (fun z => decide (z ∈ su)) ++ v.filter (fun z => decide (z ∈ sv))) (m := u ++ v.filter (fun z => !decide (z ∈ u))) (by
      rw [List.nodup_append]
      refine ⟨nu.filter _, nv.filter _, fun a ha b hb e => ?_⟩
      subst e
      simp only [List.mem_filter, decide_eq_true_eq] at ha hb
      exact hz a ha.1 ha.2 hb.1 hb.2) (fun z hz => by
      rw [List.mem_append] at hz ⊢
      simp only [List.mem_filter, decide_eq_true_eq, Bool.not_eq_true', decide_eq_false_iff_not] at hz ⊢
      rcases hz with hz | hz
      · exact Or.inl hz.1
      · by_cases hu : z ∈ u
        · exact Or.inl hu
        · exact Or.inr ⟨hz.1, hu⟩)
    simpa [cntC, diffC] using h
  have k1 := key x y some others nx ny hdis
  have k2 := key y x others some ny nx (fun z a b c d => hdis z c d a b)
  omega

theorem diff_self (c : List Int) : diffC c c = 0 := by
  unfold diffC
  rw [List.length_eq_zero_iff, List.filter_eq_nil_iff]
  intro x hx
  simp [hx]
theorem near_self {c : List Int} (h : mayC c = true) : nearC c c = true := by
  unfold nearC
  rw [h, diff_self]
  rfl
theorem nearC_comm (a b : List Int) : nearC a b = nearC b a := by
  unfold nearC
  rw [Bool.and_comm (mayC a), Nat.add_comm]
theorem diff_ins {who : Int} : ∀ {c d : List Int}, (∀ x ∈ c, x ∈ d) → ¬ who ∈ d → diffC (insC who c) d = 1
  | [], d, _, hn => by simp [insC, diffC, hn]
  | y :: r, d, hs, hn => by
    have hy := hs y List.mem_cons_self
    unfold insC
    by_cases h : y < who
    · rw [if_pos h]
      have := diff_ins (c := r) (d := d) (fun x hx => hs x (List.mem_cons_of_mem _ hx)) hn
      unfold diffC at this ⊢
      rw [List.filter_cons_of_neg (by simp [hy])]
      exact this
    · rw [if_neg h]
      unfold diffC
      rw [List.filter_cons_of_pos (by simp [hn]), List.length_cons]
      have : ((y :: r).filter fun x => !decide (x ∈ d)) = [] := by
        rw [List.filter_eq_nil_iff]
        intro x hx
        simp [hs x hx]
      rw [this]
      rfl
theorem near_ins {who : Int} {c : List Int} (h : mayC c = true) (ha : mayC (insC who c) = true) (hn : ¬ who ∈ c) : nearC (insC who c) c = true := by
  unfold nearC
  rw [h, ha, diff_ins (fun x hx => hx) hn]
  have : diffC c (insC who c) = 0 := by
    unfold diffC
    rw [List.length_eq_zero_iff, List.filter_eq_nil_iff]
    intro x hx
    simp [ins_mem.2 (Or.inr hx)]
  rw [this]
  rfl

/-- Who is added. -/
theorem addC_yes {c : List Int} {who : Int} (h : (addC c who).2 = 0) : mayC c = true ∧ ¬ who ∈ c ∧ addC c who = (insC who c, 0) ∧ mayC (insC who c) = true ∧ nearC (insC who c) c = true ∧ remC (insC who c) who = (c, 0) := by
  unfold addC at h ⊢
  split at h
  · cases h
  · rename_i h1
    split at h
    · cases h
    · rename_i h2
      split at h
      · cases h
      · rename_i h3
        have hm : mayC c = true := by
          cases hc : mayC c with
          | true => rfl
          | false => exact absurd (Or.inl hc) h1
        have hM := (mayC_iff c).1 hm
        have ha : mayC (insC who c) = true := mayC_of (by rw [ins_len]; omega) (by rw [ins_len]; omega) (fun z hz => by
          rcases ins_mem.1 hz with rfl | hz
          · exact ⟨by omega, by omega⟩
          · exact mayC_range hM z hz) (ins_pw (mayC_pw hM) h2)
        refine ⟨hm, h2, by rw [if_neg h1, if_neg h2, if_neg h3], ha, near_ins hm ha h2, ?_⟩
        unfold remC
        rw [if_neg (by rw [ha]; decide), if_neg (by rw [Classical.not_not]; exact ins_mem.2 (Or.inl rfl)), if_neg (by rw [ins_len]; have := hM.1.1; omega), ins_filter h2]
theorem filter_len {who : Int} {c : List Int} (hp : c.Pairwise (· < ·)) (h : who ∈ c) : (c.filter fun x => decide (x ≠ who)).length + 1 = c.length := by
  have := ins_len (who := who) (c := c.filter fun x => decide (x ≠ who))
  rw [filter_ins hp h] at this
  omega
/-- Who is removed. -/
theorem remC_yes {c : List Int} {who : Int} (h : (remC c who).2 = 0) : mayC c = true ∧ who ∈ c ∧ remC c who = (c.filter (fun x => decide (x ≠ who)), 0) ∧ mayC (c.filter fun x => decide (x ≠ who)) = true ∧ ¬ who ∈ c.filter (fun x => decide (x ≠ who)) ∧
    nearC (c.filter fun x => decide (x ≠ who)) c = true ∧ addC (c.filter fun x => decide (x ≠ who)) who = (c, 0) := by
  unfold remC at h ⊢
  split at h
  · cases h
  · rename_i h1
    split at h
    · cases h
    · rename_i h2
      split at h
      · cases h
      · rename_i h3
        have hm : mayC c = true := by
          cases hc : mayC c with
          | true => rfl
          | false => exact absurd hc h1
        rw [Classical.not_not] at h2
        have hM := (mayC_iff c).1 hm
        have hp := mayC_pw hM
        have hl := filter_len hp h2
        have hd : mayC (c.filter fun x => decide (x ≠ who)) = true := mayC_of (by omega) (by have := hM.1.2; omega) (fun z hz => mayC_range hM z (List.mem_filter.1 hz).1) (hp.filter _)
        have hnm : ¬ who ∈ c.filter (fun x => decide (x ≠ who)) := by simp
        have hn := near_ins hd (by rw [filter_ins hp h2]; exact hm) hnm
        rw [filter_ins hp h2, nearC_comm] at hn
        refine ⟨hm, h2, by rw [if_neg h1, if_neg (by rw [Classical.not_not]; exact h2), if_neg h3], hd, hnm, hn, ?_⟩
        have hr := mayC_range hM who h2
        unfold addC
        rw [if_neg (by rw [hd]; intro e; rcases e with e | e; (cases e); omega), if_neg hnm, if_neg (by have := hM.1.2; omega), filter_ins hp h2]
/-- Either can be done, but at the ends. -/
theorem turnsC {c : List Int} {who : Int} (h : mayC c = true) (h1 : (addC c who).2 ≠ 0) (h2 : (remC c who).2 ≠ 0) : c.length = 7 ∨ c.length = 1 ∨ who < 1 ∨ 64 < who := by
  have hM := (mayC_iff c).1 h
  by_cases hw : who ∈ c
  · right; left
    unfold remC at h2
    rw [if_neg (by rw [h]; decide), if_neg (by rw [Classical.not_not]; exact hw)] at h2
    split at h2
    · have := hM.1.1; omega
    · exact absurd rfl h2
  · by_cases hr : who < 1 ∨ 64 < who
    · rcases hr with hr | hr
      · exact Or.inr (Or.inr (Or.inl hr))
      · exact Or.inr (Or.inr (Or.inr hr))
    · left
      unfold addC at h1
      rw [if_neg (by rw [h]; simp only [Bool.true_eq_false, false_or]; exact hr), if_neg hw] at h1
      split at h1
      · have := hM.1.2; omega
      · exact absurd rfl h1

theorem cntC_mono {c s t : List Int} (h : ∀ x ∈ s, x ∈ t) : cntC c s ≤ cntC c t := by
  induction c with
  | nil => exact Nat.le_refl _
  | cons x r ih =>
    unfold cntC at ih ⊢
    by_cases hs : x ∈ s
    · rw [List.filter_cons_of_pos (by simp [hs]), List.filter_cons_of_pos (by simp [h x hs])]
      exact Nat.succ_le_succ ih
    · rw [List.filter_cons_of_neg (by simp [hs])]
      by_cases ht : x ∈ t
      · rw [List.filter_cons_of_pos (by simp [ht])]; exact Nat.le_succ_of_le ih
      · rw [List.filter_cons_of_neg (by simp [ht])]; exact ih
theorem quorum_mono {c s t : List Int} (h : ∀ x ∈ s, x ∈ t) (hq : quorumC c s = true) : quorumC c t = true := by
  unfold quorumC at hq ⊢
  simp only [Bool.and_eq_true, decide_eq_true_eq] at hq ⊢
  exact ⟨hq.1, by have := cntC_mono (c := c) h; omega⟩
theorem atLeast_mono {l : List (Int × Int)} {a b : Int} (h : a ≤ b) : ∀ x ∈ atLeast l b, x ∈ atLeast l a := by
  intro x hx
  unfold atLeast at hx ⊢
  obtain ⟨m, hm, rfl⟩ := List.mem_map.1 hx
  obtain ⟨h1, h2⟩ := List.mem_filter.1 hm
  exact List.mem_map.2 ⟨m, List.mem_filter.2 ⟨h1, by have := of_decide_eq_true h2; exact decide_eq_true (by omega)⟩, rfl⟩
theorem fold_facts (c : List Int) (l : List (Int × Int)) : ∀ (r : List (Int × Int)) (b : Int), 0 ≤ b → (b = 0 ∨ quorumC c (atLeast l b) = true) →
    b ≤ r.foldl (stepC c l) b ∧ (r.foldl (stepC c l) b = 0 ∨ quorumC c (atLeast l (r.foldl (stepC c l) b)) = true) ∧ ∀ m ∈ r, quorumC c (atLeast l m.2) = true → m.2 ≤ r.foldl (stepC c l) b
  | [], b, h0, hb => ⟨Int.le_refl _, hb, fun m hm => by cases hm⟩
  | x :: r, b, h0, hb => by
    rw [List.foldl_cons]
    have hstep : b ≤ stepC c l b x ∧ (stepC c l b x = 0 ∨ quorumC c (atLeast l (stepC c l b x)) = true) ∧ (quorumC c (atLeast l x.2) = true → x.2 ≤ stepC c l b x) := by
      unfold stepC
      by_cases h : b < x.2 ∧ quorumC c (atLeast l x.2) = true
      · rw [if_pos h]; exact ⟨by omega, Or.inr h.2, fun _ => Int.le_refl _⟩
      · rw [if_neg h]; exact ⟨Int.le_refl _, hb, fun hq => by
          rcases Int.lt_or_le b x.2 with h' | h'
          · exact absurd ⟨h', hq⟩ h
          · exact h'⟩
    obtain ⟨i1, i2, i3⟩ := fold_facts c l r (stepC c l b x) (by omega) hstep.2.1
    refine ⟨Int.le_trans hstep.1 i1, i2, fun m hm hq => ?_⟩
    rcases List.mem_cons.1 hm with rfl | hm
    · exact Int.le_trans (hstep.2.2 hq) i1
    · exact i3 m hm hq
theorem agreed_low (c : List Int) (l : List (Int × Int)) : 0 ≤ agreedC c l := (fold_facts c l l 0 (Int.le_refl _) (Or.inl rfl)).1
theorem agreed_at {c : List Int} {l : List (Int × Int)} {m : Int × Int} (hm : m ∈ l) (h0 : 0 < m.2) : quorumC c (atLeast l m.2) = decide (m.2 ≤ agreedC c l) := by
  obtain ⟨-, h2, h3⟩ := fold_facts c l l 0 (Int.le_refl _) (Or.inl rfl)
  cases hq : quorumC c (atLeast l m.2) with
  | true => exact (decide_eq_true (h3 m hm hq)).symm
  | false =>
    refine (decide_eq_false fun hle => ?_).symm
    have hle' : m.2 ≤ l.foldl (stepC c l) 0 := hle
    rcases h2 with h2 | h2
    · rw [h2] at hle'; omega
    · rw [quorum_mono (atLeast_mono hle') h2] at hq; cases hq

end Go.Proofs.YtgnonfnipifbiaaDoor.pk
