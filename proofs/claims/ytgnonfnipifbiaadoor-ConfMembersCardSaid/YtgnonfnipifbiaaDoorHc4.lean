/-
  The program's own members: the library's Clone and Delete at the members' type; Add and Remove.
-/
import Derived.Test.YtgnonfnipifbiaaDoorHc3
import Derived.Deep.RegionLaw
import Derived.Lib.SlicesDelete
import Derived.Lib.SliceRun
namespace Go.Proofs.YtgnonfnipifbiaaDoor.pk
open Go Go.RowKit Go.Lib Go.Sort
set_option maxRecDepth 100000

set_option maxHeartbeats 4000000 in
theorem clone_own (A : Option Addr) (m c : Nat) (zs : List Int) (w : World) (h : Ints w (.slice A m c) zs) (h0 : 0 < m) (h1 : m ≤ 1000) :
    Calls Tryd.prog 20 #[.slice A m c] w fun y w' => ∃ g k, y = .returned (.slice (some ⟨g, 0, none⟩) m k) ∧ w'.ownsRow w.heap.size 3 1 (.slice (some ⟨g, 0, none⟩) m k) m (zs.map (Value.int .i64)) ∧ Below w.heap.size w w' := by
  obtain ⟨i0, hi, hz0, hz1, hz2⟩ := info_three info_int
  obtain ⟨hm, hmc, hcm, hat⟩ := h.at_
  obtain ⟨b, off, rfl, -, -⟩ := hat h0
  have hq := fun (w : World) (n' c' : Nat) => Lib.run_eql_slice_nil (P := Tryd.prog) w 24 3 (some ⟨b, off, none⟩) m c n' c' Tryd.underlying24
  have H := Lib.hid (And.intro h (And.intro hm (And.intro h0 h1)))
  have HI := Lib.hid (And.intro hi (And.intro hz0 (And.intro hz1 hz2)))
  clear h hm hmc hcm hat h0 h1 hi hz0 hz1 hz2
  go_enter Tryd.func20, Tryd.ntmps20
  go_wp2_with (at_builtin; go_must (refine wpList_append_row rfl _ _ 24 rfl w.heap.size 3 i0 _ 1 8 Tryd.underlying24 HI.out.1 HI.out.2.1 HI.out.2.2.1 HI.out.2.2.2 rfl (by omega) (.slice (some ⟨w.heap.size, 0, none⟩) 0 0) 0 [] rfl (World.ownsRow_made w #[] 0 (Nat.le_refl _) (by simp [maxLen]) rfl) (fun _ => True) (some ⟨b, off, none⟩) m c (zs.map (Value.int .i64)) rfl ?c1 ?c2 ?c3 ?c4 ?c5 ?c6))
  case c1 => exact RowT.mono (by have h2 := (H.out.1.below (below_alloc w (.cells #[] 3))).1; unfold IntsT at h2; rw [← H.out.2.1] at h2; exact h2) fun _ _ => trivial
  case c2 => intro u hu; obtain ⟨z, _, rfl⟩ := List.mem_map.1 hu; rfl
  case c3 => have := H.out.2.2.2; simp only [maxLen]; omega
  case c4 => have := H.out.2.2.2; omega
  case c5 => rw [World.size_alloc]; omega
  case c6 =>
    intro v' w' ho hg
    try rw [List.nil_append] at ho
    try rw [Nat.zero_add] at ho
    have hb2 := ((Below.refl w.heap.size w).alloc (Nat.le_refl _) (.cells #[] 3)).grown hg (by rw [World.size_alloc]; omega) (fun k hk => by injection hk with hk; rw [← hk]; exact Nat.le_refl _)
    have hnil : v' ≠ .slice none 0 0 := by
      intro e
      subst e
      rcases ho.2 with ⟨_, e⟩ | ⟨g, cap, cur, e, _⟩
      · have := H.out.2.2.1
        omega
      · cases e
    obtain ⟨g, k, rfl, -⟩ := Lib.holds_of_ownsRow ho hnil
    clear hnil
    have HF := Lib.hid (And.intro ho hb2)
    clear ho hg hb2
    go_wp2_with fail
    go_ret
    exact ⟨g, k, rfl, HF.out.1, HF.out.2⟩

set_option maxHeartbeats 4000000 in
theorem delete_row (g off cap i j : Nat) (d : Array Int) (w : World) (hH : Holds (Value.int .i64) w g off d) (hcap : d.size ≤ cap) (hm : cap ≤ 9223372036854775807) (hij : i < j) (hj : j ≤ d.size) :
    Calls Tryd.prog 23 #[.slice (some ⟨g, off, none⟩) d.size cap, .int .i64 (i : Int), .int .i64 (j : Int)] w fun e w' => e = .returned (.slice (some ⟨g, off, none⟩) (d.size - (j - i)) cap) ∧
      ∃ q, w' = putRow (Value.int .i64) (Sort.ahead w q) g off (d.toList.take i ++ d.toList.drop j ++ List.replicate (j - i) 0).toArray := by
  obtain ⟨i0, hi0, hz0, hz1, hz2⟩ := info_three info_int
  obtain ⟨rest, hrest⟩ : ∃ rest, rest = (d.toList.drop j).map (Value.int .i64) := ⟨_, rfl⟩
  have hlen : rest.length = d.size - j := by rw [hrest]; simp
  have hget : ∀ t, t < d.size - j → rest[t]? = some (.int .i64 d[j + t]!) := fun t ht => by
    rw [hrest, List.getElem?_map, List.getElem?_drop, Array.getElem?_toList, getElem!_pos d (j + t) (by omega), Array.getElem?_eq_getElem (by omega)]
    rfl
  obtain ⟨A, hA, hsrc⟩ : ∃ A : Addr, (if cap = j then (some ⟨g, off, none⟩ : Option Addr) else some ⟨g, off + j, none⟩) = some A ∧ Hid (∀ t u, rest[t]? = some u → w.drew.cell? (A.add t) = some u) := by
    by_cases hc : cap = j
    · refine ⟨_, if_pos hc, Lib.hid fun t u hu => ?_⟩
      rw [List.eq_nil_of_length_eq_zero (show rest.length = 0 by omega)] at hu
      simp at hu
    · refine ⟨_, if_neg hc, Lib.hid fun t u hu => ?_⟩
      have ht : t < d.size - j := by rw [← hlen]; exact (List.getElem?_eq_some_iff.1 hu).1
      rw [hget t ht] at hu
      have h1 := (hH (j + t) (by omega)).1
      rw [← Nat.add_assoc] at h1
      rw [Addr.add_lit]
      exact h1.trans hu
  have s1 := Lib.hid (show rest.length = (d.size - j) * 1 by rw [Nat.mul_one]; exact hlen)
  have s2 := Lib.hid (show ∀ u ∈ rest, u.oneCell' = true from fun u hu => by rw [hrest] at hu; obtain ⟨x, _, rfl⟩ := List.mem_map.1 hu; rfl)
  have s3 := Lib.hid (show ∀ t, t < rest.length → (w.drew.cell? ⟨g, off + i * 1 + t, none⟩).isSome = true ∧ w.drew.frozen? ⟨g, off + i * 1 + t, none⟩ = false from fun t ht => by
    have h1 := hH (i + t) (by omega)
    rw [← Nat.add_assoc] at h1
    rw [Nat.mul_one]
    exact ⟨by show (w.cell? _).isSome = true; rw [h1.1]; rfl, h1.2⟩)
  obtain ⟨W1, hW1⟩ : ∃ W1, W1 = w.drew.setCells g (off + i * 1) rest := ⟨_, rfl⟩
  have hW2 : W1 = putRow (Value.int .i64) (Sort.ahead w 1) g off (lay d i (d.toList.drop j)) := by
    rw [hW1, hrest, Nat.mul_one, ← putRow_setCells (Value.int .i64) (Sort.ahead w 1) g off _ d i (by simp; omega), putRow_self (Value.int .i64) (Sort.ahead w 1) g off d (holds_ahead _ w 1 g off d hH)]
    rfl
  have hH1 : Holds (Value.int .i64) W1 g off (lay d i (d.toList.drop j)) := by rw [hW2]; exact holds_putRow _ _ g off d _ (holds_ahead _ w 1 g off d hH) (lay_size _ _ _)
  have hcl : ∀ ty, (Builtin.clear_ #[24] ty #[.slice (some ⟨g, off + (i + (d.size - j)), none⟩) (d.size - (i + (d.size - j))) (cap - (i + (d.size - j)))]).run Tryd.prog W1 = .ok (.tuple #[]) (W1.setCells g (off + (i + (d.size - j))) (List.replicate (d.size - (i + (d.size - j))) (.int .i64 0))) := fun ty =>
    Lib.run_clear_slice W1 _ _ ty (.int .i64 0) Tryd.underlying24 (fun W => by simp [zeroValue, typeInfo, hi0, hz0]) rfl rfl g (off + (i + (d.size - j))) _ _ (by omega)
      (fun t ht => by have h1 := (hH1 (i + (d.size - j) + t) (by rw [lay_size]; omega)).1; rw [← Nat.add_assoc] at h1; rw [h1]; rfl)
      (fun t ht => by have h1 := (hH1 (i + (d.size - j) + t) (by rw [lay_size]; omega)).2; rw [← Nat.add_assoc] at h1; exact h1)
  have HX := Lib.hid (And.intro hW2 (And.intro hW1 (And.intro hi0 hz1)))
  have ne : ¬ (i : Int) = (j : Int) := by omega
  have hic : i ≤ cap := by omega
  have hjc : j ≤ cap := by omega
  have hij2 : i ≤ j := by omega
  clear hW1 hW2 hH1 hH hget hrest hlen hi0 hz0 hz1 hz2
  go_enter Tryd.func23, Tryd.ntmps23
  go_wp2_with fail
  go_region_law (refine step_append_room rfl (.tmp 22) (.tmp 25) 24 rfl 3 i0 1 Tryd.underlying24 HX.out.2.2.1 HX.out.2.2.2 g off i cap (by simp [Act.eval, Act.put]) A (d.size - j) (cap - j) rest (by simp [Act.eval, Act.put]) s1.out hsrc.out s2.out (by omega) s3.out ?_; rw [← HX.out.2.1])
  go_wp2
  go_ret
  refine ⟨by rw [show d.size - (j - i) = i + (d.size - j) by omega]; rfl, 1, ?_⟩
  rw [← Lib.delete_arr d i j 0 (by omega) hj, ← putRow_setCells _ _ g off _ _ (i + (d.size - j)) (by rw [lay_size]; simp; omega), ← HX.out.1, List.map_replicate, show d.size - (i + (d.size - j)) = j - i by omega]

theorem filter_at {who : Int} : ∀ {zs : List Int} {k : Nat}, k < zs.length → zs.getD k 0 = who → zs.Nodup → zs.filter (fun x => decide (x ≠ who)) = zs.take k ++ zs.drop (k + 1)
  | [], _, h, _, _ => by simp at h
  | z :: r, 0, _, hx, hn => by
    have hz : z = who := by simpa using hx
    have hr : ¬ who ∈ r := by rw [← hz]; exact (List.nodup_cons.1 hn).1
    rw [List.filter_cons, if_neg (by simp [hz]), filter_none hr]
    simp
  | z :: r, k + 1, h, hx, hn => by
    have hk : k < r.length := by simpa using h
    have hx' : r.getD k 0 = who := by simpa using hx
    have hz : z ≠ who := fun e => (List.nodup_cons.1 hn).1 (by rw [e, ← hx']; exact getD_mem hk)
    rw [List.filter_cons, if_pos (by simp [hz]), filter_at hk hx' (List.nodup_cons.1 hn).2]
    simp

theorem delete_own (B g n c k : Nat) (zs : List Int) (w : World) (h : w.ownsRow B 3 1 (.slice (some ⟨g, 0, none⟩) n c) n (zs.map (Value.int .i64))) (hn : n = zs.length) (hk : k < n) (k1 : Int) (hk1 : k1 = ((k + 1 : Nat) : Int)) (n' : Nat) (hn' : n' = n - 1) :
    Calls Tryd.prog 23 #[.slice (some ⟨g, 0, none⟩) n c, .int .i64 (k : Int), .int .i64 k1] w fun y w' => y = .returned (.slice (some ⟨g, 0, none⟩) n' c) ∧
      w'.ownsRow B 3 1 (.slice (some ⟨g, 0, none⟩) n' c) n' ((zs.take k ++ zs.drop (k + 1)).map (Value.int .i64)) ∧ Below B w w' := by
  subst hk1
  subst hn'
  obtain ⟨g', c', hv, hB, hlt, hnc, hcm, hl, hH⟩ := Lib.holds_of_ownsRow h (by intro e; cases e)
  injection hv with e1 e2 e3
  injection e1 with e1
  injection e1 with e1
  subst e1; subst e3
  have hsz : zs.toArray.size = n := by simp; omega
  have hd := delete_row g 0 c k (k + 1) zs.toArray w hH (by omega) (by simp only [maxLen] at hcm; omega) (by omega) (by omega)
  rw [hsz, show k + 1 - k = 1 by omega] at hd
  refine hd.mono ?_
  rintro y w' ⟨rfl, q, rfl⟩
  have hup := Lib.ownsRow_putRow (q := q) (k := n - 1) h (ys := zs.take k ++ zs.drop (k + 1) ++ List.replicate 1 0) (by simp; omega) (by omega)
  refine ⟨rfl, ?_, Lib.below_putRow (Below.refl B w) hB⟩
  have e : (zs.take k ++ zs.drop (k + 1) ++ List.replicate 1 0).take (n - 1) = zs.take k ++ zs.drop (k + 1) := by
    rw [List.take_append_of_le_length (by simp; omega)]
    exact List.take_of_length_le (by simp; omega)
  rw [e] at hup
  exact hup

set_option maxHeartbeats 4000000 in
theorem Remove_own (A : Option Addr) (m c : Nat) (zs : List Int) (who : Int) (w : World) (h : Ints w (.slice A m c) zs) (r : List Int × Nat) (hr : r = remC zs who) :
    Calls Tryd.prog 8 #[.slice A m c, .int .i64 who] w fun y w' => ∃ A1 c1, y = .returned (.tuple #[.slice A1 r.1.length c1, er r.2]) ∧ Ints w' (.slice A1 r.1.length c1) r.1 ∧ Below w.heap.size w w' := by
  have C := Lib.hid (may_own A m c zs w h _ rfl)
  unfold remC at hr
  cases hm : mayC zs with
  | false =>
    rw [hm] at C
    rw [if_pos hm] at hr
    subst hr
    clear h hm
    go_enter Tryd.func8, Tryd.ntmps8
    go_wp2_with (go_at_call 18; go_must (refine C.out.mono ?_; rintro y w1 ⟨rfl, rfl⟩))
    go_ret2
    exact ⟨none, 0, rfl, Ints.nil_ _, Below.refl _ _⟩
  | true =>
    rw [hm] at C
    rw [if_neg (by rw [hm]; simp)] at hr
    have hmm := h.len_le
    have h7 := ((mayC_iff zs).1 hm).1
    by_cases hx : who ∈ zs
    · rw [if_neg (fun e => e hx)] at hr
      obtain ⟨k, hk, hkx, hno⟩ := first_at hx
      have K := Lib.hid (IndexC_yes A m c zs who k w h hk hkx hno)
      have k0 : (0 : Int) ≤ (k : Int) := by omega
      have k0' : ¬ (k : Int) < 0 := by omega
      by_cases h1 : zs.length < 2
      · rw [if_pos h1] at hr
        subst hr
        have m1 : (m : Int) = 1 := by omega
        have m1' : m = 1 := by omega
        subst m1'
        clear h hm h7 hmm hx hk hkx hno h1 m1
        go_enter Tryd.func8, Tryd.ntmps8
        go_wp2_with (first
          | (go_at_call 18; go_must (refine C.out.mono ?_; rintro y w1 ⟨rfl, rfl⟩))
          | (go_at_call 22; go_must (refine K.out.mono ?_; rintro y w1 ⟨rfl, rfl⟩)))
        go_ret2
        exact ⟨none, 0, rfl, Ints.nil_ _, Below.refl _ _⟩
      · rw [if_neg h1] at hr
        subst hr
        have m1 : ¬ (m : Int) = 1 := by omega
        have CL := Lib.hid (clone_own A m c zs w h (by omega) (by omega))
        have hf := filter_at hk hkx (pw_nodup (mayC_pw ((mayC_iff zs).1 hm)))
        have hlen : (zs.take k ++ zs.drop (k + 1)).length = m - 1 := by simp; omega
        have HN := Lib.hid (And.intro hmm (And.intro hk (And.intro hf (And.intro hlen (And.intro h.2 (show 0 < m by omega))))))
        have k1 : (k : Int) + 1 = ((k + 1 : Nat) : Int) := by omega
        clear h hm hmm hx hkx hno h1 hf hlen k1
        go_enter Tryd.func8, Tryd.ntmps8
        go_wp2_with (first
          | (go_at_call 18; go_must (refine C.out.mono ?_; rintro y w1 ⟨rfl, rfl⟩))
          | (go_at_call 22; go_must (refine K.out.mono ?_; rintro y w1 ⟨rfl, rfl⟩))
          | (go_at_call 20; go_must (refine CL.out.mono ?_; rintro y w2 ⟨g, cc, rfl, ho, hb2⟩; have HB2 := Lib.hid (And.intro ho hb2); clear ho hb2))
          | (go_at_call 23; go_must (refine (delete_own w.heap.size g m cc k zs w2 HB2.out.1 HN.out.1 (by have := HN.out.1; have := HN.out.2.1; omega) _ (by go_num) (m - 1) rfl).mono ?_; rintro y w3 ⟨rfl, ho3, hb3⟩; have HB3 := Lib.hid (And.intro ho3 hb3); clear ho3 hb3)))
        go_ret2
        obtain ⟨hmm, hk, hf, hlen, hin, h0⟩ := HN.out
        simp only [hf, hlen]
        refine ⟨_, _, rfl, ?_, HB2.out.2.trans HB3.out.2⟩
        have ho := HB3.out.1
        rw [← hlen] at ho ⊢
        exact Ints.of_own ho fun z hz => by
          rw [← hf] at hz
          exact hin z (List.mem_filter.1 hz).1
    · rw [if_pos hx] at hr
      subst hr
      have K := Lib.hid (IndexC_no A m c zs who w h hx)
      clear h hm h7 hx hmm
      go_enter Tryd.func8, Tryd.ntmps8
      go_wp2_with (first
        | (go_at_call 18; go_must (refine C.out.mono ?_; rintro y w1 ⟨rfl, rfl⟩))
        | (go_at_call 22; go_must (refine K.out.mono ?_; rintro y w1 ⟨rfl, rfl⟩)))
      go_ret2
      exact ⟨none, 0, rfl, Ints.nil_ _, Below.refl _ _⟩

end Go.Proofs.YtgnonfnipifbiaaDoor.pk
