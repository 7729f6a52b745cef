/-
  Plain mathematics of the law DiskPrefix: writes to places of their own.
-/
import Derived.Test.YtlhagbcomnjnoaaPureD
namespace Go.Proofs.Ytlhagbcomnjnoaa.pk
open Go

def placed : Nat → List (List UInt8) → List (Nat × List UInt8)
  | _, [] => []
  | k, x :: l => (50 * k, x) :: placed (k + 1) l
theorem rep_getD (n j : Nat) : (List.replicate n (0 : UInt8)).getD j 0 = 0 := by
  simp only [List.getD, List.getElem?_replicate]
  by_cases h : j < n
  · rw [if_pos h]; rfl
  · rw [if_neg h]; rfl
theorem placed_append : ∀ (k : Nat) (l r : List (List UInt8)), placed k (l ++ r) = placed k l ++ placed (k + l.length) r
  | _, [], _ => by simp [placed]
  | k, x :: l, r => by
    simp only [List.cons_append, placed, List.length_cons]
    rw [placed_append (k + 1) l r, show k + 1 + l.length = k + (l.length + 1) from by omega]
theorem placed_len : ∀ (k : Nat) (l : List (List UInt8)), (placed k l).length = l.length
  | _, [] => rfl
  | k, _ :: l => by simp only [placed, List.length_cons, placed_len (k + 1) l]
theorem placed_take : ∀ (k j : Nat) (l : List (List UInt8)), (placed k l).take j = placed k (l.take j)
  | _, 0, _ => by simp [placed]
  | _, _ + 1, [] => by simp [placed]
  | k, j + 1, x :: l => by simp only [placed, List.take_succ_cons, placed_take (k + 1) j l]
theorem placed_drop : ∀ (k j : Nat) (l : List (List UInt8)), (placed k l).drop j = placed (k + j) (l.drop j)
  | _, 0, _ => by simp
  | _, _ + 1, [] => by simp [placed]
  | k, j + 1, x :: l => by
    simp only [placed, List.drop_succ_cons, placed_drop (k + 1) j l]
    rw [show k + 1 + j = k + (j + 1) from by omega]
theorem placed_ok : ∀ (k : Nat) (l : List (List UInt8)), (∀ x ∈ l, x.length ≤ 40) → ∀ w ∈ placed k l, w.1 + w.2.length ≤ 50 * (k + l.length)
  | _, [], _, w, hw => by simp [placed] at hw
  | k, x :: l, h, w, hw => by
    simp only [placed, List.mem_cons] at hw
    rcases hw with rfl | hw
    · have := h x (List.mem_cons_self ..)
      simp only [List.length_cons]
      omega
    · have := placed_ok (k + 1) l (fun y hy => h y (List.mem_cons_of_mem _ hy)) w hw
      simp only [List.length_cons]
      omega

/-- The byte at a place behind such writes. -/
theorem placed_get : ∀ (ys : List (List UInt8)) (k : Nat) (b : List UInt8), (∀ y ∈ ys, y.length ≤ 40) → 50 * (k + ys.length) ≤ b.length → ∀ (i t : Nat), t < 50 →
    (nowL b (placed k ys)).getD (50 * i + t) 0 = if k ≤ i ∧ i < k + ys.length ∧ t < (ys.getD (i - k) []).length then (ys.getD (i - k) []).getD t 0 else b.getD (50 * i + t) 0
  | [], k, b, _, _, i, t, _ => by
    rw [if_neg (by simp only [List.length_nil]; omega)]
    rfl
  | y :: ys, k, b, hy, hb, i, t, ht => by
    have h0 := hy y (List.mem_cons_self ..)
    simp only [List.length_cons] at hb
    unfold placed nowL
    have hin : 50 * k + y.length ≤ b.length := by omega
    rw [placed_get ys (k + 1) _ (fun z hz => hy z (List.mem_cons_of_mem _ hz)) (by rw [put1_len hin]; omega) i t ht, put1_get hin]
    by_cases h1 : i < k
    · rw [if_neg (by omega), if_neg (by omega), if_neg (by omega)]
    · by_cases h2 : i = k
      · subst h2
        rw [if_neg (by omega)]
        have e0 : (y :: ys).getD (i - i) [] = y := by simp
        rw [e0]
        by_cases h3 : t < y.length
        · rw [if_pos (by omega), if_pos ⟨by omega, by simp only [List.length_cons]; omega, h3⟩]
          congr 1
          omega
        · rw [if_neg (by omega), if_neg (by omega)]
      · have e1 : (y :: ys).getD (i - k) [] = ys.getD (i - (k + 1)) [] := by
          rw [show i - k = (i - (k + 1)) + 1 from by omega]
          simp
        rw [e1]
        by_cases h3 : k + 1 ≤ i ∧ i < k + 1 + ys.length ∧ t < (ys.getD (i - (k + 1)) []).length
        · rw [if_pos h3, if_pos ⟨by omega, by simp only [List.length_cons]; omega, h3.2.2⟩]
        · rw [if_neg h3]
          have h4 : ¬ (k ≤ i ∧ i < k + (y :: ys).length ∧ t < (ys.getD (i - (k + 1)) []).length) := fun hx => h3 ⟨by omega, by have := hx.2.1; simp only [List.length_cons] at this; omega, hx.2.2⟩
          rw [if_neg h4, if_neg (by omega)]

/-- The disk behind the first i writes. -/
def preD (ls : List (List UInt8)) (i : Nat) : Dk := { B := List.replicate 1000 0, L := placed 0 (ls.take i), armed := -1, off := false }
theorem preD_zero (ls : List (List UInt8)) : preD ls 0 = newD 1000 := by
  unfold preD newD
  rw [List.take_zero]
  rfl
theorem pre_step (ls : List (List UInt8)) (i : Nat) (hi : i < ls.length) (h20 : i < 20) (hx : ls[i].length ≤ 40) : putE (preD ls i) (50 * (i : Int)) ls[i] = 0 ∧ putD (preD ls i) (50 * (i : Int)) ls[i] = preD ls (i + 1) := by
  have hb : badE (preD ls i) (50 * (i : Int)) ls[i].length = 0 := by
    unfold badE
    have h1000 : (preD ls i).B.length = 1000 := List.length_replicate ..
    rw [h1000, if_pos (by omega)]
    rfl
  constructor
  · unfold putE
    rw [if_pos hb]
    rfl
  · unfold putD
    rw [if_pos hb]
    have hL : (preD ls i).L ++ [((50 * (i : Int)).toNat, ls[i])] = placed 0 (ls.take (i + 1)) := by
      rw [List.take_succ_eq_append_getElem hi, placed_append]
      have : (ls.take i).length = i := by rw [List.length_take]; omega
      rw [this]
      have e : (50 * (i : Int)).toNat = 50 * (0 + i) := by omega
      rw [e]
      rfl
    show stepD { B := (preD ls i).B, L := (preD ls i).L ++ [((50 * (i : Int)).toNat, ls[i])], armed := -1, off := false } = _
    rw [hL]
    rfl

/-- Behind a start: of each a begin, the rest noughts; behind the first that is not whole, nothing. -/
theorem pre_start (ls : List (List UInt8)) (n : Nat) (keep : List Int) (hn : n ≤ ls.length) (h20 : n ≤ 20) (hx : ∀ i (h : i < ls.length), i < n → ls[i].length ≤ 40) :
    ∃ r : Nat → Nat, (∀ i (h : i < ls.length), i < n → r i ≤ ls[i].length) ∧ (∀ i j (h : i < ls.length), i < j → j < n → r i < ls[i].length → r j = 0) ∧
      ∀ i (h : i < ls.length), i < n → badE (startD (preD ls n) keep) (50 * (i : Int)) ls[i].length = 0 ∧
        readB (startD (preD ls n) keep) (50 * (i : Int)) ls[i].length = ls[i].take (r i) ++ List.replicate (ls[i].length - r i) 0 := by
  obtain ⟨xs, hxs⟩ : ∃ xs, xs = ls.take n := ⟨_, rfl⟩
  have hxl : xs.length = n := by rw [hxs, List.length_take]; omega
  have hxi : ∀ i (h : i < ls.length) (h2 : i < n), xs[i]? = some ls[i] := fun i h h2 => by rw [hxs, List.getElem?_take, if_pos h2, List.getElem?_eq_getElem h]
  have hx40 : ∀ y ∈ xs, y.length ≤ 40 := by
    intro y hy
    obtain ⟨i, hi, rfl⟩ := List.getElem_of_mem hy
    have h1 : i < ls.length := by omega
    have := hxi i h1 (by omega)
    rw [List.getElem?_eq_getElem hi] at this
    rw [Option.some.inj this]
    exact hx i h1 (by omega)
  obtain ⟨K, hK⟩ : ∃ K, K = restK keep 0 (n + 1) := ⟨_, rfl⟩
  have hKn : K < n + 1 := by rw [hK]; exact restK_le _ _ _ (by omega)
  obtain ⟨R, hR⟩ : ∃ R : Nat → Nat, R = fun k => restK keep 1 (k + 1) := ⟨_, rfl⟩
  have hRk : ∀ k, R k ≤ k := fun k => by rw [hR]; have := restK_le keep 1 (k + 1) (by omega); show restK keep 1 (k + 1) ≤ k; omega
  obtain ⟨ys, hys⟩ : ∃ ys, ys = xs.take K ++ ((xs.drop K).take 1).map fun x => x.take (R x.length) := ⟨_, rfl⟩
  have hkept : keptL (placed 0 xs) keep = placed 0 ys := by
    have hmap : ∀ (k : Nat) (l : List (List UInt8)), ((placed k l).take 1).map (fun w => (w.1, w.2.take (restK keep 1 (w.2.length + 1)))) = placed k ((l.take 1).map fun x => x.take (R x.length)) := by
      intro k l
      cases l with
      | nil => simp [placed]
      | cons x l => simp [placed, hR]
    unfold keptL
    rw [placed_len, hxl, ← hK, placed_take, placed_drop, hmap, hys, placed_append]
    congr 2
    rw [List.length_take]
    omega
  have hy40 : ∀ y ∈ ys, y.length ≤ 40 := by
    intro y hy
    rw [hys] at hy
    rcases List.mem_append.1 hy with hy | hy
    · exact hx40 y (List.mem_of_mem_take hy)
    · obtain ⟨x, hx', rfl⟩ := List.mem_map.1 hy
      have := hx40 x (List.mem_of_mem_drop (List.mem_of_mem_take hx'))
      rw [List.length_take]
      omega
  have hyl : ys.length ≤ n := by
    rw [hys, List.length_append, List.length_take, List.length_map, List.length_take, List.length_drop]
    omega
  refine ⟨fun i => (ys.getD i []).length, ?_, ?_, ?_⟩
  all_goals
    have hyi : ∀ i (h : i < ls.length) (h2 : i < n), ys.getD i [] = if i < K then ls[i] else if i = K then ls[i].take (R ls[i].length) else [] := by
      intro i h h2
      have hti : (xs.take K).length = K := by rw [List.length_take]; omega
      rw [hys]
      simp only [List.getD]
      by_cases h3 : i < K
      · rw [if_pos h3, List.getElem?_append_left (by omega), List.getElem?_take, if_pos h3, hxi i h h2]
        rfl
      · rw [if_neg h3, List.getElem?_append_right (by omega), hti]
        by_cases h4 : i = K
        · subst h4
          rw [if_pos rfl, Nat.sub_self, List.getElem?_map, List.getElem?_take, if_pos (by omega), List.getElem?_drop, Nat.add_zero, hxi i h h2]
          rfl
        · rw [if_neg h4, List.getElem?_eq_none (by rw [List.length_map, List.length_take, List.length_drop]; omega)]
          rfl
  · intro i h h2
    show (ys.getD i []).length ≤ _
    rw [hyi i h h2]
    by_cases h3 : i < K
    · rw [if_pos h3]; exact Nat.le_refl _
    · rw [if_neg h3]
      by_cases h4 : i = K
      · rw [if_pos h4, List.length_take]; omega
      · rw [if_neg h4]; exact Nat.zero_le _
  · intro i j h hij hj hlt
    have hlt' : (ys.getD i []).length < ls[i].length := hlt
    show (ys.getD j []).length = 0
    rw [hyi i h (by omega)] at hlt'
    by_cases h3 : i < K
    · rw [if_pos h3] at hlt'; omega
    · rw [hyi j (by omega) hj, if_neg (by omega), if_neg (by omega)]
      rfl
  · intro i h h2
    have h1000 : (startD (preD ls n) keep).B.length = 1000 := by
      have hok : (preD ls n).Ok := by
        intro w hw
        have := placed_ok 0 (ls.take n) (by rw [← hxs]; exact hx40) w hw
        have hl : (ls.take n).length = n := by rw [← hxs]; exact hxl
        rw [hl] at this
        show _ ≤ (List.replicate 1000 (0 : UInt8)).length
        rw [List.length_replicate]
        omega
      rw [startD_len hok]
      show (List.replicate 1000 (0 : UInt8)).length = 1000
      rw [List.length_replicate]
    have h40 := hx i h h2
    have hb : badE (startD (preD ls n) keep) (50 * (i : Int)) ls[i].length = 0 := by
      unfold badE
      rw [h1000, if_pos (by omega)]
      rfl
    refine ⟨hb, ?_⟩
    show readB (startD (preD ls n) keep) (50 * (i : Int)) (ls[i].length : Int) = ls[i].take (ys.getD i []).length ++ List.replicate (ls[i].length - (ys.getD i []).length) 0
    unfold readB
    rw [if_pos hb]
    have hnow : (startD (preD ls n) keep).now = nowL (List.replicate 1000 0) (placed 0 ys) := by
      show nowL (List.replicate 1000 0) (keptL (placed 0 (ls.take n)) keep) = _
      rw [← hxs, hkept]
    have hnl : (startD (preD ls n) keep).now.length = 1000 := h1000
    have hyp : ys.getD i [] = ls[i].take (ys.getD i []).length := by
      rw [hyi i h h2]
      by_cases h3 : i < K
      · rw [if_pos h3, List.take_length]
      · rw [if_neg h3]
        by_cases h4 : i = K
        · rw [if_pos h4, List.length_take]
          rw [Nat.min_eq_left (hRk _)]
        · rw [if_neg h4]; rfl
    apply List.ext_getElem?
    intro t
    have e1 : (50 * (i : Int)).toNat = 50 * i := by omega
    have e2 : ((ls[i].length : Nat) : Int).toNat = ls[i].length := by omega
    rw [e1, e2]
    by_cases ht : t < ls[i].length
    · have hg := placed_get ys 0 (List.replicate 1000 0) hy40 (by rw [List.length_replicate]; omega) i t (by omega)
      rw [← hnow] at hg
      rw [rep_getD, Nat.sub_zero] at hg
      rw [List.getElem?_take, if_pos ht, List.getElem?_drop]
      have hlt : 50 * i + t < (startD (preD ls n) keep).now.length := by omega
      have hgv : (startD (preD ls n) keep).now[50 * i + t]? = some ((startD (preD ls n) keep).now.getD (50 * i + t) 0) := by
        simp [List.getD, List.getElem?_eq_getElem hlt]
      rw [hgv, hg]
      have hrl : (ys.getD i []).length ≤ ls[i].length := by
        have := congrArg List.length hyp
        rw [List.length_take] at this
        omega
      by_cases h3 : t < (ys.getD i []).length
      · have hc : (0 ≤ i ∧ i < 0 + ys.length ∧ t < (ys.getD i []).length) := ⟨by omega, by
          rcases Nat.lt_or_ge i ys.length with hlt | hge
          · omega
          · exfalso
            have : ys.getD i [] = [] := by simp [List.getD, List.getElem?_eq_none hge]
            rw [this] at h3
            simp at h3, h3⟩
        rw [if_pos hc, List.getElem?_append_left (by rw [List.length_take]; omega)]
        have hq : (ys.getD i [])[t]? = (ls[i].take (ys.getD i []).length)[t]? := congrArg (fun l => l[t]?) hyp
        rw [← hq]
        exact (fun (l : List UInt8) (hl : t < l.length) => show some (l.getD t 0) = l[t]? by simp [List.getD, List.getElem?_eq_getElem hl]) _ h3
      · rw [if_neg (fun hc => h3 hc.2.2), List.getElem?_append_right (by rw [List.length_take]; omega), List.getElem?_replicate, if_pos (by rw [List.length_take]; omega)]
    · rw [List.getElem?_eq_none (by rw [List.length_take]; omega), List.getElem?_eq_none (by rw [List.length_append, List.length_take, List.length_replicate]; have := congrArg List.length hyp; rw [List.length_take] at this; omega)]

end Go.Proofs.Ytlhagbcomnjnoaa.pk
