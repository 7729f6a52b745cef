/-
  Texts of the proof, joined: EdN, UnM, WiM, DeM.
-/
import Derived.Test.YtfblgkcipnkhaaaGreatDoorJq
import Derived.Test.YtfblgkcipnkhaaaGreatDoorJf
import Derived.Test.YtfblgkcipnkhaaaGreatDoorJh
import Derived.Test.YtfblgkcipnkhaaaGreatDoorJn
import Derived.RegionTactic

/-
  The program's own reader of an entry: walked.
-/
namespace Go.Proofs.YtfblgkcipnkhaaaGreatDoor.pk
open Go Go.RowKit
set_option maxRecDepth 100000

theorem rUint_small {most : Nat} {s : List UInt8 × Nat} {r : (List UInt8 × Nat) × Nat} (h : rUint most s = r) (hm : most ≤ 1099511627776) : r.2 ≤ 1099511627776 := by
  have := rUint_le most s
  rw [h] at this
  omega
theorem rUint_short {most : Nat} {s : List UInt8 × Nat} {r : (List UInt8 × Nat) × Nat} (h : rUint most s = r) : r.1.1.length ≤ s.1.length := by
  by_cases h0 : (rUint most s).1.2 = 0
  · have h1 := (rUint_inv h0).2.1
    have h2 := congrArg List.length h1
    rw [List.length_append] at h2
    rw [← h]
    omega
  · subst h
    unfold rUint at h0 ⊢
    by_cases hk : s.2 = 0
    · rw [if_pos hk] at h0 ⊢
      rcases hr : rdUint most s.1 with ⟨k1, m, rest⟩
      rw [hr] at h0
      by_cases h1 : k1 = 0
      · simp [h1] at h0
      · simp [h1]
    · rw [if_neg hk]
      exact Nat.le_refl _
theorem rBytes_short {most : Int} {s : List UInt8 × Nat} {r : (List UInt8 × Nat) × List UInt8} (h : rBytes 98 most s = r) (hs : s.1.length ≤ 140737488355328) : r.1.1.length ≤ 140737488355328 ∧ r.2.length ≤ 140737488355328 := by
  by_cases h0 : (rBytes 98 most s).1.2 = 0
  · have h1 := (rBytes_inv h0).2.1
    have h2 := congrArg List.length h1
    rw [List.length_append, List.length_append] at h2
    rw [← h]
    omega
  · subst h
    unfold rBytes at h0 ⊢
    by_cases hk : s.2 = 0
    · rw [if_pos hk] at h0 ⊢
      rcases hr : rdBytes 98 most s.1 with ⟨k1, m, rest⟩
      rw [hr] at h0
      by_cases h1 : k1 = 0
      · simp [h1] at h0
      · simp [h1]; exact hs
    · rw [if_neg hk]
      simp; exact hs

theorem put4e {w : World} {b t : Nat} {u0 u1 u2 u3 : Value} (h : w.heap[b]? = some (.cells #[u0, u1, u2, u3] t (0, 0))) (v0 v1 v2 v3 : Value) :
    ∃ F, F = (((w.setCell ⟨b, 0, none⟩ v0).setCell ⟨b, 1, none⟩ v1).setCell ⟨b, 2, none⟩ v2).setCell ⟨b, 3, none⟩ v3 ∧ F.heap[b]? = some (.cells #[v0, v1, v2, v3] t (0, 0)) ∧ (∀ B, B ≤ b → Below B w F) ∧ (∀ k, k ≠ b → F.heap[k]? = w.heap[k]?) ∧ F.heap.size = w.heap.size :=
  ⟨_, rfl, put4_own h v0 v1 v2 v3, fun B hB => put4_below (Below.refl B w) hB, fun k hk => by rw [Below.heap_setCell _ _ _ _ hk, Below.heap_setCell _ _ _ _ hk, Below.heap_setCell _ _ _ _ hk, Below.heap_setCell _ _ _ _ hk], by simp only [World.size_setCell]⟩

set_option maxHeartbeats 8000000 in
theorem EDec_walk (A : Option Addr) (n c : Nat) (b : List UInt8) (w : World) (hs : StdP w) (h : Bys w (.slice A n c) b) (hn : n ≤ 140737488355328)
    (s1 : List UInt8) (k1 v1 : Nat) (h1 : rUint 1099511627776 (b, 0) = ((s1, k1), v1)) (s2 : List UInt8) (k2 v2 : Nat) (h2 : rUint 1099511627776 (s1, k1) = ((s2, k2), v2))
    (s3 : List UInt8) (k3 v3 : Nat) (h3 : rUint 2 (s2, k2) = ((s3, k3), v3)) (hl3 : s3.length ≤ 140737488355328) (s4 : List UInt8) (k4 : Nat) (v4 : List UInt8) (h4 : rBytes 98 4096 (s3, k3) = ((s4, k4), v4))
    (l1 : v1 ≤ 1099511627776) (l2 : v2 ≤ 1099511627776) (l3 : v3 ≤ 1099511627776) (l4 : v4.length ≤ 140737488355328)
    (e : En) (f : Nat) (hr : (e, f) = if doneR (s4, k4) ≠ 0 ∨ fitM ⟨(v1 : Int), (v2 : Int), (v3 : Int), v4⟩ = false then (⟨0, 0, 0, []⟩, 3) else (⟨(v1 : Int), (v2 : Int), (v3 : Int), v4⟩, 0)) (m : Nat) (hm : m = e.data.length) :
    Calls Tryz.prog 30 #[.slice A n c] w fun y w' => ∃ A1 c1, y = .returned (.tuple #[.agg #[.int .i64 e.index, .int .i64 e.term, .int .i64 e.kind, .slice A1 m c1], er f]) ∧ SlT w' (fun q => w.heap.size ≤ q ∧ q < w'.heap.size) (.slice A1 m c1) e.data ∧ Below w.heap.size w w' := by
  obtain ⟨W0, g, hW0, hg, hb0, hz, hsz⟩ := one_box w (.cells #[.int .i64 0, .int .i64 0, .int .i64 0, .slice none 0 0] 57)
  have hln := h.len_
  have HW := Lib.hid (And.intro hW0 hg)
  have HE := Lib.hid (And.intro hb0 (And.intro hz hsz))
  have HS := Lib.hid (hs.more hb0)
  have C0 := Lib.hid (Read_any A n c b W0 W0.heap.size ((h.below hb0).sl_) (by omega))
  obtain ⟨nv, hnv⟩ : ∃ nv, nv = v4.length := ⟨_, rfl⟩
  have C1 := Lib.hid fun p v W hs h => Uint_s p 1099511627776 b 0 s1 k1 v1 h1 v W hs h
  have C2 := Lib.hid fun p v W hs h => Uint_s p 1099511627776 s1 k1 s2 k2 v2 h2 v W hs h
  have C3 := Lib.hid fun p v W hs h => Uint_s p 2 s2 k2 s3 k3 v3 h3 v W hs h
  have C4 := Lib.hid fun p v W hs h => Bytes_s p 4096 (by omega) s3 k3 hl3 s4 k4 v4 h4 nv hnv v W hs h
  obtain ⟨d, hd⟩ : ∃ d, d = doneR (s4, k4) := ⟨_, rfl⟩
  have C5 := Lib.hid fun p v W h => Done_s p s4 k4 d hd v W h
  obtain ⟨bf, hbf⟩ : ∃ bf, bf = fitM ⟨(v1 : Int), (v2 : Int), (v3 : Int), v4⟩ := ⟨_, rfl⟩
  have C6 := Lib.hid fun A c W => emay_any ⟨(v1 : Int), (v2 : Int), (v3 : Int), v4⟩ A nv c W hnv (by omega) bf hbf
  have wr1 := wrap_small l1
  have wr2 := wrap_small l2
  have wr3 := wrap_small l3
  have ww : ((1099511627776 : Nat) : Int) = 1099511627776 := rfl
  have w2 : ((2 : Nat) : Int) = 2 := rfl
  rw [ww] at C1 C2
  rw [w2] at C3
  have three : (d ≠ 0 ∧ e = ⟨0, 0, 0, []⟩ ∧ f = 3) ∨ (d = 0 ∧ bf = false ∧ e = ⟨0, 0, 0, []⟩ ∧ f = 3) ∨ (d = 0 ∧ bf = true ∧ e = ⟨(v1 : Int), (v2 : Int), (v3 : Int), v4⟩ ∧ f = 0) := by
    rw [← hd, ← hbf] at hr
    by_cases h0 : d = 0
    · cases bf with
      | false => rw [if_pos (Or.inr rfl)] at hr; injection hr with p1 p2; exact Or.inr (Or.inl ⟨h0, rfl, p1, p2⟩)
      | true => rw [if_neg (by simp [h0])] at hr; injection hr with p1 p2; exact Or.inr (Or.inr ⟨h0, rfl, p1, p2⟩)
    · rw [if_pos (Or.inl h0)] at hr; injection hr with p1 p2; exact Or.inl ⟨h0, p1, p2⟩
  have HM := Lib.hid (And.intro hm hnv)
  clear hW0 hg hb0 hz hsz hln h hn h1 h2 h3 h4 l1 l2 l3 l4 hr hd hbf hs hl3 hnv hm ww w2
  go_enter Tryz.func30, Tryz.ntmps30
  go_upto_region 1 with fail
  rw [← HW.out.1]
  try rw [← HW.out.2]
  go_upto_region 2 with (go_at_call 24; go_must (refine C0.out.mono ?_; rintro y w1 ⟨p, v, rfl, hp, hr, hb⟩; have H1 := Lib.hid (And.intro hr hb); have HP := Lib.hid hp; clear hr hb hp))
  go_upto_region 3 with (first
    | (go_at_call 28; go_must (refine (C4.out p _ _ (HS.out.more H4.out.2) H4.out.1).mono ?_; rintro y w5 ⟨v5, A5, c5, rfl, hS5, hr, hg⟩; have H5 := Lib.hid (And.intro hr (And.intro (Below.rd H4.out.2 hg (Nat.le_refl _) HP.out) (hS5.mono (T' := fun q => W0.heap.size ≤ q ∧ q < w5.heap.size) fun q hq => ⟨Nat.le_trans H4.out.2.size hq.1, hq.2⟩))); clear hr hg hS5))
    | (go_at_call 26; refine (C3.out p _ _ (HS.out.more H3.out.2) H3.out.1).mono ?_; rintro y w4 ⟨v4', rfl, hr, hg⟩; have H4 := Lib.hid (And.intro hr (Below.rd H3.out.2 hg (Nat.le_refl _) HP.out)); clear hr hg)
    | (go_at_call 26; refine (C2.out p _ _ (HS.out.more H2.out.2) H2.out.1).mono ?_; rintro y w3 ⟨v3', rfl, hr, hg⟩; have H3 := Lib.hid (And.intro hr (Below.rd H2.out.2 hg (Nat.le_refl _) HP.out)); clear hr hg)
    | (go_at_call 26; refine (C1.out p _ _ (HS.out.more H1.out.2) H1.out.1).mono ?_; rintro y w2 ⟨v2', rfl, hr, hg⟩; have H2 := Lib.hid (And.intro hr (Below.rd H1.out.2 hg (Nat.le_refl _) HP.out)); clear hr hg))
  obtain ⟨W5, g5, hW5, hg5, hb5, hq5, hsz5⟩ := one_box w5 (.cells #[.int .i64 (v1 : Int), .int .i64 (v2 : Int), .int .i64 (v3 : Int), .slice A5 nv c5] 57)
  rw [← hW5, ← hg5]
  have HB5 : Below W0.heap.size W0 W5 := H5.out.2.1.trans (hb5.mono H5.out.2.1.size)
  have R5 := H5.out.1.below hb5 H5.out.1.lt
  have S5 : SlT W5 (fun q => W0.heap.size ≤ q ∧ q < W5.heap.size) (.slice A5 nv c5) v4 := (H5.out.2.2.kept fun k hk _ => hb5.block k hk.2).mono fun k hk => ⟨hk.1, Nat.lt_of_lt_of_le hk.2 hb5.size⟩
  have Q0 := (HB5.block g (by have := HE.out.2.2; omega)).trans HE.out.2.1
  obtain ⟨z0, z1, z2, z3⟩ := cells4 Q0
  obtain ⟨y0, y1, y2, y3⟩ := cells4 hq5
  have f0 := frozen_own Q0 0
  have f1 := frozen_own Q0 1
  have f2 := frozen_own Q0 2
  have f3 := frozen_own Q0 3
  have H6 := Lib.hid (And.intro HB5 (And.intro R5 (And.intro S5 (And.intro Q0 (And.intro hq5 hsz5)))))
  clear hW5 hg5 hb5 hq5 hsz5 HB5 R5 S5 Q0
  rcases three with ⟨h0, rfl, rfl⟩ | ⟨rfl, rfl, rfl, rfl⟩ | ⟨rfl, rfl, rfl, rfl⟩
  · rw [show ev d = .iface 60 (.int .i64 (d : Int)) from ev_ne h0] at C5
    have hm0 : m = 0 := HM.out.1
    subst hm0
    go_wp2_with (go_at_call 31; go_must (refine (C5.out p _ _ H6.out.2.1).mono ?_; rintro y w7 ⟨rfl, rfl⟩))
    have T := And.intro H6.out.2.2.2.1 (Below.refl w.heap.size W5)
    obtain ⟨F, hF, hE, hbQ, hoth, hsF⟩ := put4e T.1 (.int .i64 0) (.int .i64 0) (.int .i64 0) (.slice none 0 0)
    rw [← hF]
    clear hF z0 z1 z2 z3
    obtain ⟨z0, z1, z2, z3⟩ := cells4 hE
    have hgw := HW.out.2
    have hF0 : Below w.heap.size w F := (HE.out.1.trans (H6.out.1.mono HE.out.1.size)).trans (T.2.trans (hbQ _ (by omega)))
    exact bodyPost_ret (v := .tuple #[.agg #[.int .i64 0, .int .i64 0, .int .i64 0, .slice none 0 0], .iface 60 (.int .i64 3)]) (by simp [results, Tryz.results30, go_sem, z0, z1, z2, z3]) rfl ⟨none, 0, rfl, SlT.nil_ _ _, hF0⟩
  · rw [show ev 0 = .nilIface from rfl] at C5
    have hm0 : m = 0 := HM.out.1
    subst hm0
    go_wp2_with (first
      | (go_at_call 31; go_must (refine (C5.out p _ _ H6.out.2.1).mono ?_; rintro y w7 ⟨rfl, rfl⟩))
      | (go_at_call 65; go_must (refine (C6.out A5 c5 _).mono ?_; rintro y w8 ⟨rfl, hb⟩; have Q := (hb.block g (by have := HE.out.2.2; have := H6.out.1.size; omega)).trans H6.out.2.2.2.1; clear z0 z1 z2 z3 f0 f1 f2 f3; obtain ⟨z0, z1, z2, z3⟩ := cells4 Q; have f0 := frozen_own Q 0; have f1 := frozen_own Q 1; have f2 := frozen_own Q 2; have f3 := frozen_own Q 3; have H8 := Lib.hid (And.intro Q hb); clear hb Q)))
    have T := And.intro H8.out.1 (H8.out.2.mono (show w.heap.size ≤ W5.heap.size from Nat.le_trans HE.out.1.size H6.out.1.size))
    obtain ⟨F, hF, hE, hbQ, hoth, hsF⟩ := put4e T.1 (.int .i64 0) (.int .i64 0) (.int .i64 0) (.slice none 0 0)
    rw [← hF]
    clear hF z0 z1 z2 z3
    obtain ⟨z0, z1, z2, z3⟩ := cells4 hE
    have hgw := HW.out.2
    have hF0 : Below w.heap.size w F := (HE.out.1.trans (H6.out.1.mono HE.out.1.size)).trans (T.2.trans (hbQ _ (by omega)))
    exact bodyPost_ret (v := .tuple #[.agg #[.int .i64 0, .int .i64 0, .int .i64 0, .slice none 0 0], .iface 60 (.int .i64 3)]) (by simp [results, Tryz.results30, go_sem, z0, z1, z2, z3]) rfl ⟨none, 0, rfl, SlT.nil_ _ _, hF0⟩
  · rw [show ev 0 = .nilIface from rfl] at C5
    go_wp2_with (first
      | (go_at_call 31; go_must (refine (C5.out p _ _ H6.out.2.1).mono ?_; rintro y w7 ⟨rfl, rfl⟩))
      | (go_at_call 65; go_must (refine (C6.out A5 c5 _).mono ?_; rintro y w8 ⟨rfl, hb⟩; have Q := (hb.block g (by have := HE.out.2.2; have := H6.out.1.size; omega)).trans H6.out.2.2.2.1; have Q5 := (hb.block g5 (by have := H6.out.2.2.2.2.2; omega)).trans H6.out.2.2.2.2.1; clear z0 z1 z2 z3 f0 f1 f2 f3 y0 y1 y2 y3; obtain ⟨z0, z1, z2, z3⟩ := cells4 Q; obtain ⟨y0, y1, y2, y3⟩ := cells4 Q5; have f0 := frozen_own Q 0; have f1 := frozen_own Q 1; have f2 := frozen_own Q 2; have f3 := frozen_own Q 3; have H8 := Lib.hid (And.intro Q hb); clear hb Q Q5)))
    have T := And.intro H8.out.1 (H8.out.2.mono (show w.heap.size ≤ W5.heap.size from Nat.le_trans HE.out.1.size H6.out.1.size))
    obtain ⟨F, hF, hE, hbQ, hoth, hsF⟩ := put4e T.1 (.int .i64 (v1 : Int)) (.int .i64 (v2 : Int)) (.int .i64 (v3 : Int)) (.slice A5 nv c5)
    rw [← hF]
    clear hF z0 z1 z2 z3
    obtain ⟨z0, z1, z2, z3⟩ := cells4 hE
    have hgw := HW.out.2
    have hF0 : Below w.heap.size w F := (HE.out.1.trans (H6.out.1.mono HE.out.1.size)).trans (T.2.trans (hbQ _ (by omega)))
    have hS : SlT F (fun q => w.heap.size ≤ q ∧ q < F.heap.size) (.slice A5 nv c5) v4 := (H6.out.2.2.1.kept fun k hk hk2 => (hoth k (by have := HE.out.2.2; have := hk.1; omega)).trans (H8.out.2.block k hk2)).mono fun k hk => ⟨Nat.le_trans HE.out.1.size hk.1, by rw [hsF]; exact Nat.lt_of_lt_of_le hk.2 H8.out.2.size⟩
    have hm0 : nv = m := HM.out.2.trans HM.out.1.symm
    subst hm0
    exact bodyPost_ret (v := .tuple #[.agg #[.int .i64 (v1 : Int), .int .i64 (v2 : Int), .int .i64 (v3 : Int), .slice A5 nv c5], .nilIface]) (by simp [results, Tryz.results30, go_sem, z0, z1, z2, z3]) rfl ⟨A5, c5, rfl, hS, hF0⟩

theorem EDec_any (A : Option Addr) (n c : Nat) (b : List UInt8) (w : World) (hs : StdP w) (h : Bys w (.slice A n c) b) (hn : n ≤ 140737488355328) (e : En) (f : Nat) (hr : decE b = (e, f)) (m : Nat) (hm : m = e.data.length) :
    Calls Tryz.prog 30 #[.slice A n c] w fun y w' => ∃ A1 c1, y = .returned (.tuple #[.agg #[.int .i64 e.index, .int .i64 e.term, .int .i64 e.kind, .slice A1 m c1], er f]) ∧ SlT w' (fun q => w.heap.size ≤ q ∧ q < w'.heap.size) (.slice A1 m c1) e.data ∧ Below w.heap.size w w' := by
  have hln := h.len_
  rcases h1 : rUint 1099511627776 (b, 0) with ⟨⟨s1, k1⟩, v1⟩
  rcases h2 : rUint 1099511627776 (s1, k1) with ⟨⟨s2, k2⟩, v2⟩
  rcases h3 : rUint 2 (s2, k2) with ⟨⟨s3, k3⟩, v3⟩
  rcases h4 : rBytes 98 4096 (s3, k3) with ⟨⟨s4, k4⟩, v4⟩
  have l1 := rUint_small h1 (by omega)
  have l2 := rUint_small h2 (by omega)
  have l3 := rUint_small h3 (by omega)
  have t1 := rUint_short h1
  have t2 := rUint_short h2
  have t3 := rUint_short h3
  have t4 := rBytes_short h4 (by simp only at t1 t2 t3 ⊢; omega)
  refine EDec_walk A n c b w hs h hn s1 k1 v1 h1 s2 k2 v2 h2 s3 k3 v3 h3 (by simp only at t1 t2 t3; omega) s4 k4 v4 h4 l1 l2 l3 t4.2 e f ?_ m hm
  rw [← hr]
  unfold decE takeE
  simp only [h1, h2, h3, h4]
  have hk : (v3 : Int) ≤ 2 := by have := rUint_le 2 (s2, k2); rw [h3] at this; simp only at this; omega
  by_cases hd : doneR (s4, k4) = 0
  · by_cases hf : fitM ⟨(v1 : Int), (v2 : Int), (v3 : Int), v4⟩ = true
    · have := fitM_iff.1 hf
      simp only at this
      rw [if_neg (by rintro (h0 | h0 | h0) <;> omega), if_neg (by rintro (h0 | h0); exact h0 hd; rw [hf] at h0; cases h0)]
    · have hf' := Bool.eq_false_iff.2 hf
      have h5 : v4.length ≤ 4096 := by
        have := (doneR_iff (s := (s4, k4))).1 hd
        have h6 := rBytes_inv (most := 4096) (letter := 98) (s := (s3, k3)) (by rw [h4]; exact this.1)
        rw [h4] at h6
        have := h6.2.2.1
        simp only at this
        omega
      have := fitM_false.1 hf'
      simp only at this l1 l2
      have hor : (v1 : Int) < 1 ∨ (v2 : Int) < 1 := by omega
      rw [if_pos (Or.inr hor), if_pos (Or.inr hf')]
  · rw [if_pos (Or.inl hd), if_pos (Or.inl hd)]

end Go.Proofs.YtfblgkcipnkhaaaGreatDoor.pk

/-
  The program's own look at a message's entries: which cannot be read again.
-/
namespace Go.Proofs.YtfblgkcipnkhaaaGreatDoor.pk
open Go Go.RowKit
set_option maxRecDepth 100000

theorem lUint_inj {a b : Nat} {x y : List UInt8} (ha : a < 18446744073709551616) (hb : b < 18446744073709551616) (h : lUint a ++ x = lUint b ++ y) : a = b ∧ x = y := by
  have h1 : rUint 18446744073709551616 (lUint a ++ x, 0) = rUint 18446744073709551616 (lUint b ++ y, 0) := by rw [h]
  rw [rUint_lay ha (by omega), rUint_lay hb (by omega)] at h1
  simp only [Prod.mk.injEq] at h1
  exact ⟨h1.2, h1.1.1⟩
theorem lBytes_inj {a b : List UInt8} (ha : a.length < 18446744073709551616) (hb : b.length < 18446744073709551616) (h : lBytes a = lBytes b) : a = b := by
  have h1 : rBytes 98 18446744073709551616 (lBytes a ++ [], 0) = rBytes 98 18446744073709551616 (lBytes b ++ [], 0) := by rw [h]
  rw [rBytes_lay ha (by omega), rBytes_lay hb (by omega)] at h1
  simp only [Prod.mk.injEq] at h1
  exact h1.2
theorem encE_inj {a b : En} (ha : a.data.length < 18446744073709551616) (hb : b.data.length < 18446744073709551616) (h : encE a = encE b) : u64 a.index = u64 b.index ∧ u64 a.term = u64 b.term ∧ u64 a.kind = u64 b.kind ∧ a.data = b.data := by
  unfold encE at h
  simp only [List.append_assoc] at h
  obtain ⟨h1, h⟩ := lUint_inj (u64_lt _) (u64_lt _) h
  obtain ⟨h2, h⟩ := lUint_inj (u64_lt _) (u64_lt _) h
  obtain ⟨h3, h⟩ := lUint_inj (u64_lt _) (u64_lt _) h
  exact ⟨h1, h2, h3, lBytes_inj ha hb h⟩
theorem decE_no {e : En} (hok : e.ok) (hl : e.data.length < 18446744073709551616) (h : fitM e = false) : (decE (encE e)).2 ≠ 0 := by
  intro h0
  obtain ⟨h1, h2⟩ := decE_inv h0
  generalize (decE (encE e)).1 = x at h1 h2
  have hx := fitM_iff.1 h2
  obtain ⟨g1, g2, g3, g4⟩ := encE_inj hl (by omega) h1
  unfold En.ok inI at hok
  unfold u64 at g1 g2 g3
  have hf := fitM_false.1 h
  have q1 : e.index = x.index := by omega
  have q2 : e.term = x.term := by omega
  have q3 : e.kind = x.kind := by omega
  rw [q1, q2, q3, g4] at hf
  exact hf hx
theorem decE_kind (b : List UInt8) : (decE b).2 = 0 ∨ (decE b).2 = 3 := by
  unfold decE
  simp only
  split
  · exact Or.inr rfl
  · exact Or.inl rfl

set_option maxHeartbeats 4000000 in
theorem unread_any (e : En) (A : Option Addr) (n c : Nat) (w : World) (hs : StdP w) (h : Bys w (.slice A n c) e.data) (hok : e.ok) (hn : n ≤ 100000) (b : Bool) (hb : b = !fitM e) :
    Calls Tryz.prog 72 #[.agg #[.int .i64 e.index, .int .i64 e.term, .int .i64 e.kind, .slice A n c]] w fun y w' => y = .returned (.bool b) ∧ Below w.heap.size w w' := by
  obtain ⟨W1, g, hW1, hg, hb1, hq, hsz⟩ := one_box w (.cells #[.int .i64 e.index, .int .i64 e.term, .int .i64 e.kind, .slice A n c] 57)
  have hln := h.len_
  have HW := Lib.hid (And.intro hW1 hg)
  have HE := Lib.hid (And.intro hb1 (hs.more hb1))
  obtain ⟨x0, x1, x2, x3⟩ := cells4 hq
  obtain ⟨k, hk⟩ : ∃ k, k = (encE e).length := ⟨_, rfl⟩
  have hkl : k ≤ 140737488355328 := by have := encE_len (e := e) (by omega); omega
  have CE := Lib.hid (EEnc_any e A n c W1 ⟨(hs.more hb1).tab, (hs.more hb1).std.size⟩ (h.below hb1) hn k hk)
  rcases hd : decE (encE e) with ⟨e1, f⟩
  have CD := Lib.hid fun A c W hs h => EDec_any A k c (encE e) W hs h hkl e1 f hd e1.data.length rfl
  have hf : (f = 0 ∧ b = false) ∨ (f = 3 ∧ b = true) := by
    cases hfit : fitM e with
    | true =>
      have := decE_lay hfit
      rw [hd] at this
      injection this with _ t2
      exact Or.inl ⟨t2, by rw [hb, hfit]; rfl⟩
    | false =>
      have h1 := decE_no hok (by omega) hfit
      have h2 := decE_kind (encE e)
      rw [hd] at h1 h2
      simp only at h1 h2
      exact Or.inr ⟨by omega, by rw [hb, hfit]; rfl⟩
  clear hW1 hg hb1 hq hsz h hln hk hkl hd hb hs hok hn
  rcases hf with ⟨rfl, rfl⟩ | ⟨rfl, rfl⟩
  · rw [er_zero] at CD
    go_enter Tryz.func72, Tryz.ntmps72
    go_upto_region 1 with fail
    rw [← HW.out.1, ← HW.out.2]
    go_wp2_with (first
      | (go_at_call 46; go_must (refine CE.out.mono ?_; rintro y w1 ⟨A1, c1, rfl, hi, hb⟩; have H1 := Lib.hid (And.intro hi hb); clear hi hb))
      | (go_at_call 30; go_must (refine (CD.out A1 c1 w1 (HE.out.2.more H1.out.2) H1.out.1).mono ?_; rintro y w2 ⟨A2, c2, rfl, -, hb⟩; have H2 := Lib.hid hb; clear hb)))
    go_ret
    have b1 := HE.out.1.trans (H1.out.2.mono HE.out.1.size)
    have b2 := b1.trans (H2.out.mono b1.size)
    exact ⟨rfl, b2.alloc b2.size _⟩
  · rw [er_ne (by decide)] at CD
    go_enter Tryz.func72, Tryz.ntmps72
    go_upto_region 1 with fail
    rw [← HW.out.1, ← HW.out.2]
    go_wp2_with (first
      | (go_at_call 46; go_must (refine CE.out.mono ?_; rintro y w1 ⟨A1, c1, rfl, hi, hb⟩; have H1 := Lib.hid (And.intro hi hb); clear hi hb))
      | (go_at_call 30; go_must (refine (CD.out A1 c1 w1 (HE.out.2.more H1.out.2) H1.out.1).mono ?_; rintro y w2 ⟨A2, c2, rfl, -, hb⟩; have H2 := Lib.hid hb; clear hb)))
    go_ret
    have b1 := HE.out.1.trans (H1.out.2.mono HE.out.1.size)
    have b2 := b1.trans (H2.out.mono b1.size)
    exact ⟨rfl, b2.alloc b2.size _⟩

/-- Where the first entry stands that may not be; -1: none does. -/
structure BadAt (l : List En) (r : Int) : Prop where
  none_ : l.all fitM = true → r = -1
  some_ : l.all fitM = false → 0 ≤ r
  at_ : ∀ j (hj : j < l.length), (∀ e ∈ l.take j, fitM e = true) → fitM l[j] = false → r = (j : Int)
theorem badAt_ex : ∀ l : List En, ∃ r, BadAt l r ∧ -1 ≤ r
  | [] => ⟨-1, ⟨fun _ => rfl, fun h => by simp at h, fun j hj => by simp at hj⟩, by omega⟩
  | x :: l => by
    obtain ⟨r, h, hr⟩ := badAt_ex l
    cases hx : fitM x with
    | false =>
      refine ⟨0, ⟨fun h0 => by simp [hx] at h0, fun _ => by omega, fun j hj ht _ => ?_⟩, by omega⟩
      match j with
      | 0 => rfl
      | j + 1 => have := ht x (by simp); rw [hx] at this; cases this
    | true =>
      have hall : (x :: l).all fitM = l.all fitM := by simp [hx]
      cases hl : l.all fitM with
      | true => refine ⟨-1, ⟨fun _ => rfl, fun h0 => (by rw [hall, hl] at h0; cases h0), fun j hj ht hf => ?_⟩, by omega⟩
                rw [List.all_eq_true] at hl
                match j with
                | 0 => simp only [List.getElem_cons_zero] at hf; rw [hx] at hf; cases hf
                | j + 1 => simp only [List.getElem_cons_succ] at hf; rw [hl _ (List.getElem_mem _)] at hf; cases hf
      | false =>
        refine ⟨r + 1, ⟨fun h0 => (by rw [hall, hl] at h0; cases h0), fun _ => by have := h.some_ hl; omega, fun j hj ht hf => ?_⟩, by omega⟩
        match j with
        | 0 => simp only [List.getElem_cons_zero] at hf; rw [hx] at hf; cases hf
        | j + 1 =>
          simp only [List.getElem_cons_succ] at hf
          have := h.at_ j (by simpa using hj) (fun e he => ht e (by simp [he])) hf
          rw [this]
          rfl

set_option maxHeartbeats 4000000 in
theorem IdxE_any (A : Option Addr) (n c : Nat) (l : List En) (w : World) (hs : StdP w) (h : Ents w (.slice A n c) l) (hsm : SmallE 1000000 25663 l) (r : Int) (hr : BadAt l r) :
    Calls Tryz.prog 91 #[.slice A n c, .func (.func 72) #[] #[]] w fun y w' => y = .returned (.int .i64 r) ∧ Below w.heap.size w w' := by
  have eg : ∀ args w, (callFunc 72 args).run Tryz.prog w = .ok (.enter 72 args) w := enters_of Tryz.func72 (by kernel_rfl) rfl
  obtain ⟨hn, hnc, hcm⟩ := h.len_
  have in1 : (n : Int) ≤ 9223372036854775807 := by omega
  have HH := Lib.hid (And.intro h (And.intro hn (And.intro hr (And.intro hsm hs))))
  clear h hn hnc hcm hr hsm hs
  go_enter Tryz.func91, Tryz.ntmps91
  go_wp2_with fail
  go_loopw [8] (fun ii wr => ∃ (j : Nat), j ≤ n ∧ ii = .int .i64 (j : Int) ∧ Hid (∀ e ∈ l.take j, fitM e = true) ∧ Below w.heap.size w wr) (fun ii _ => n - (intOf ii).toNat)
  case atStart => exact ⟨0, Nat.zero_le _, rfl, Lib.hid (by simp), Below.refl _ _⟩
  case round =>
    obtain ⟨j, hj, rfl, HT, hbw⟩ := hrel
    by_cases hlt : j < n
    · have ii : (j : Int) < (n : Int) := by omega
      have hjl : j < l.length := by have := HH.out.2.1; omega
      obtain ⟨bk, off, Ad, cd, rfl, hbb, hok, q0, q1, q2, q3, hdat⟩ := (HH.out.1.below hbw).at_ j hjl
      have hsm := HH.out.2.2.2.1.2 _ (List.getElem_mem hjl)
      have hat := HH.out.2.2.1.at_ j hjl HT.out
      have htk : ∀ e ∈ l.take (j + 1), fitM e = true ↔ (e ∈ l.take j ∨ e = l[j]) → fitM e = true := fun e he => ⟨fun h _ => h, fun h => h (by rw [List.take_succ_eq_append_getElem hjl] at he; rcases List.mem_append.mp he with h1 | h1; exact Or.inl h1; exact Or.inr (List.mem_singleton.mp h1))⟩
      obtain ⟨e, he⟩ : ∃ e, e = l[j] := ⟨_, rfl⟩
      rw [← he] at hok q0 q1 q2 q3 hdat hsm hat
      obtain ⟨m, hm⟩ : ∃ m, m = e.data.length := ⟨_, rfl⟩
      rw [← hm] at q3 hdat hsm
      have HU := Lib.hid fun b hb => unread_any e Ad m cd wr (HH.out.2.2.2.2.more hbw) hdat hok (by omega) b hb
      have HB := Lib.hid hbw
      cases hf : fitM e with
      | false =>
        have hrj := Lib.hid (hat hf)
        have HU1 := Lib.hid (HU.out true (by rw [hf]; rfl))
        clear hat htk hdat hsm hok hm he hbw HU hbb hf
        go_wp2_with (go_at_fn 72; refine HU1.out.mono ?_; rintro y w' ⟨rfl, hb'⟩; have H1 := Lib.hid hb'; clear hb')
        go_ret
        exact ⟨by rw [hrj.out]; rfl, HB.out.trans (H1.out.mono HB.out.size)⟩
      | true =>
        have HT2 : Hid (∀ e ∈ l.take (j + 1), fitM e = true) := Lib.hid fun x hx => (htk x hx).2 fun h => by
          rcases h with h | h
          · exact HT.out x h
          · rw [h, ← he]; exact hf
        have HU1 := Lib.hid (HU.out false (by rw [hf]; rfl))
        clear hat htk hdat hsm hok hm he hbw HU hbb hf
        go_wp2_with (go_at_fn 72; refine HU1.out.mono ?_; rintro y w' ⟨rfl, hb'⟩; have H1 := Lib.hid hb'; clear hb')
        go_roundw
        case rel => exact ⟨j + 1, by omega, by go_num, HT2, HB.out.trans (H1.out.mono HB.out.size)⟩
        case measure => simp [intOf]; omega
    · obtain rfl : j = n := by omega
      have ii : ¬ (j : Int) < (j : Int) := by omega
      have hm1 : r = -1 := HH.out.2.2.1.none_ (List.all_eq_true.2 fun e he => HT.out e (by rw [List.take_of_length_le (by have := HH.out.2.1; omega)]; exact he))
      have HM := Lib.hid hm1
      clear hm1
      go_wp2_with fail
      go_ret
      exact ⟨by rw [HM.out]; rfl, hbw⟩

set_option maxHeartbeats 2000000 in
theorem ContE_any (A : Option Addr) (n c : Nat) (l : List En) (w : World) (hs : StdP w) (h : Ents w (.slice A n c) l) (hsm : SmallE 1000000 25663 l) (b : Bool) (hb : b = !l.all fitM) :
    Calls Tryz.prog 71 #[.slice A n c, .func (.func 72) #[] #[]] w fun y w' => y = .returned (.bool b) ∧ Below w.heap.size w w' := by
  obtain ⟨r, hr, hr1⟩ := badAt_ex l
  have CI := Lib.hid (IdxE_any A n c l w hs h hsm r hr)
  have hcase : (r = -1 ∧ b = false) ∨ (0 ≤ r ∧ b = true) := by
    cases hl : l.all fitM with
    | true => exact Or.inl ⟨hr.none_ hl, by rw [hb, hl]; rfl⟩
    | false => exact Or.inr ⟨hr.some_ hl, by rw [hb, hl]; rfl⟩
  clear hs h hsm hb hr
  rcases hcase with ⟨rfl, rfl⟩ | ⟨h0, rfl⟩
  all_goals
    go_enter Tryz.func71, Tryz.ntmps71
    go_wp2_with (go_at_call 91; go_must (refine CI.out.mono ?_; rintro y w1 ⟨rfl, hb⟩; have H1 := Lib.hid hb; clear hb))
    go_ret
    exact ⟨rfl, H1.out⟩

def listsM (m : Ms) : Bool := decide (m.data.length ≤ 4096) && decide (m.ents.length ≤ 64) && m.ents.all fitM
set_option maxHeartbeats 4000000 in
theorem lists_any (m : Ms) (Ad : Option Addr) (nd cd : Nat) (Ae : Option Addr) (ne ce : Nat) (w : World) (hs : StdP w) (h : InM m Ad nd cd Ae ne ce w) (hse : SmallE 1000000 25663 m.ents) (b : Bool) (hb : b = listsM m) :
    Calls Tryz.prog 39 #[.agg #[.int .i64 m.kind, .int .i64 m.frm, .int .i64 m.to, .int .i64 m.term, .int .i64 m.index, .int .i64 m.logTerm, .int .i64 m.commit, .int .i64 m.round, .bool m.ok, .int .i64 m.off, .slice Ad nd cd, .slice Ae ne ce]] w fun y w' => y = .returned (.bool b) ∧ Below w.heap.size w w' := by
  have hnd := h.data.len_
  have hne := h.ents.len_.1
  have in1 : (nd : Int) ≤ 9223372036854775807 := by obtain ⟨A', c', hv, h1, h2⟩ := h.data.form; injection hv with _ e2 e3; omega
  have in2 : (ne : Int) ≤ 9223372036854775807 := by have := h.ents.len_; omega
  obtain ⟨W1, g, hW1, hg, hb1, hq, hsz⟩ := one_box w (.cells #[.int .i64 m.kind, .int .i64 m.frm, .int .i64 m.to, .int .i64 m.term, .int .i64 m.index, .int .i64 m.logTerm, .int .i64 m.commit, .int .i64 m.round, .bool m.ok, .int .i64 m.off, .slice Ad nd cd, .slice Ae ne ce] 30)
  have HW := Lib.hid (And.intro hW1 hg)
  have HE := Lib.hid hb1
  obtain ⟨z0, z1, z2, z3, z4, z5, z6, z7, z8, z9, z10, z11⟩ := cells12 hq
  have CC := Lib.hid fun b hb => ContE_any Ae ne ce m.ents W1 (hs.more hb1) (h.ents.below hb1) hse b hb
  have hcase : (¬ (nd : Int) ≤ 4096 ∧ b = false) ∨ ((nd : Int) ≤ 4096 ∧ ¬ (ne : Int) ≤ 64 ∧ b = false) ∨ ((nd : Int) ≤ 4096 ∧ (ne : Int) ≤ 64 ∧ b = m.ents.all fitM) := by
    unfold listsM at hb
    by_cases h1 : (nd : Int) ≤ 4096
    · rw [decide_eq_true (show m.data.length ≤ 4096 by omega), Bool.true_and] at hb
      by_cases h2 : (ne : Int) ≤ 64
      · rw [decide_eq_true (show m.ents.length ≤ 64 by omega), Bool.true_and] at hb
        exact Or.inr (Or.inr ⟨h1, h2, hb⟩)
      · rw [decide_eq_false (show ¬ m.ents.length ≤ 64 by omega), Bool.false_and] at hb
        exact Or.inr (Or.inl ⟨h1, h2, hb⟩)
    · rw [decide_eq_false (show ¬ m.data.length ≤ 4096 by omega), Bool.false_and, Bool.false_and] at hb
      exact Or.inl ⟨h1, hb⟩
  clear hW1 hg hb1 hq hsz hs h hse hb hnd hne
  rcases hcase with ⟨h1, rfl⟩ | ⟨h1, h2, rfl⟩ | ⟨h1, h2, hb⟩
  · go_enter Tryz.func39, Tryz.ntmps39
    go_upto_region 1 with fail
    rw [← HW.out.1, ← HW.out.2]
    go_wp2_with fail
    go_ret
    exact ⟨rfl, HE.out⟩
  · go_enter Tryz.func39, Tryz.ntmps39
    go_upto_region 1 with fail
    rw [← HW.out.1, ← HW.out.2]
    go_wp2_with fail
    go_ret
    exact ⟨rfl, HE.out⟩
  · have CC1 := Lib.hid (CC.out (!b) (by rw [hb]))
    clear hb CC
    cases b
    all_goals
      go_enter Tryz.func39, Tryz.ntmps39
      go_upto_region 1 with fail
      rw [← HW.out.1, ← HW.out.2]
      go_wp2_with (go_at_call 71; go_must (refine CC1.out.mono ?_; rintro y w1 ⟨rfl, hb⟩; have H1 := Lib.hid hb; clear hb))
      go_ret
      exact ⟨rfl, HE.out.trans (H1.out.mono HE.out.size)⟩

end Go.Proofs.YtfblgkcipnkhaaaGreatDoor.pk

/-
  The program's own look at a message's numbers; its Check.
-/
namespace Go.Proofs.YtfblgkcipnkhaaaGreatDoor.pk
open Go Go.RowKit
set_option maxRecDepth 100000

theorem Ints.lit {w : World} {g t n : Nat} {zs : List Int} {cs : Array Value} (hg : w.heap[g]? = some (.cells cs t (0, 0))) (hc : cs = (zs.map (Value.int .i64)).toArray) (hn : n = zs.length) (hm : n ≤ 1000000) (hi : ∀ z ∈ zs, inI z) : Ints w (.slice (some ⟨g, 0, none⟩) n n) zs := by
  subst hc; subst hn
  refine ⟨?_, hi⟩
  have := RowT.lit (w := w) (sz := 1) (n := zs.length) hg (by simp) (by omega)
  obtain ⟨hl, A, c, hv, h1, h2, h3⟩ := this
  refine ⟨hl, A, c, hv, h1, h2, ?_⟩
  rcases h3 with h3 | ⟨b, off, hb, _, hcell⟩
  · exact Or.inl h3
  · injection hv with e1 e2 e3
    have hgb : b = g := by rw [← e1] at hb; injection hb with hb; injection hb with hb; exact hb.symm
    exact Or.inr ⟨b, off, hb, by rw [hgb]; exact obj_lt hg, hcell⟩

theorem Below.box {a w w' : World} {o : Obj} (h : Below a.heap.size a w) (hb : Below (w.alloc o).heap.size (w.alloc o) w') : Below a.heap.size a w' :=
  h.trans (((below_alloc w o).mono h.size).trans (hb.mono (by rw [World.size_alloc]; have := h.size; omega)))

set_option maxHeartbeats 2000000 in
theorem beyond_any (n lo hi : Int) (gl gm : Nat) (w : World) (h0 : w.cell? ⟨gl, 0, none⟩ = some (.int .i64 lo)) (h1 : w.cell? ⟨gm, 0, none⟩ = some (.int .i64 hi)) (b : Bool) (hb : b = !rg n lo hi) :
    Calls Tryz.prog 89 #[.int .i64 n, .pointer (some ⟨gl, 0, none⟩), .pointer (some ⟨gm, 0, none⟩)] w fun y w' => y = .returned (.bool b) ∧ w = w' := by
  have hcase : (n < lo ∧ b = true) ∨ (¬ n < lo ∧ hi < n ∧ b = true) ∨ (¬ n < lo ∧ ¬ hi < n ∧ b = false) := by
    cases hr : rg n lo hi with
    | true => have := rg_iff.1 hr; exact Or.inr (Or.inr ⟨by omega, by omega, by rw [hb, hr]; rfl⟩)
    | false =>
      have := rg_false.1 hr
      by_cases h : n < lo
      · exact Or.inl ⟨h, by rw [hb, hr]; rfl⟩
      · exact Or.inr (Or.inl ⟨h, by omega, by rw [hb, hr]; rfl⟩)
  clear hb
  rcases hcase with ⟨c1, rfl⟩ | ⟨c1, c2, rfl⟩ | ⟨c1, c2, rfl⟩
  all_goals
    go_enter Tryz.func89, Tryz.ntmps89
    go_wp2_with fail
    go_ret
    exact ⟨rfl, rfl⟩

/-- Where the first number stands that is not from lo to hi; -1: none does. -/
structure BadI (lo hi : Int) (l : List Int) (r : Int) : Prop where
  none_ : l.all (fun z => rg z lo hi) = true → r = -1
  some_ : l.all (fun z => rg z lo hi) = false → 0 ≤ r
  at_ : ∀ j (hj : j < l.length), (∀ e ∈ l.take j, rg e lo hi = true) → rg l[j] lo hi = false → r = (j : Int)
theorem badI_ex (lo hi : Int) : ∀ l : List Int, ∃ r, BadI lo hi l r
  | [] => ⟨-1, ⟨fun _ => rfl, fun h => by simp at h, fun j hj => by simp at hj⟩⟩
  | x :: l => by
    obtain ⟨r, h⟩ := badI_ex lo hi l
    cases hx : rg x lo hi with
    | false =>
      refine ⟨0, ⟨fun h0 => by simp [hx] at h0, fun _ => by omega, fun j hj ht _ => ?_⟩⟩
      match j with
      | 0 => rfl
      | j + 1 => have := ht x (by simp); rw [hx] at this; cases this
    | true =>
      have hall : (x :: l).all (fun z => rg z lo hi) = l.all (fun z => rg z lo hi) := by simp [hx]
      cases hl : l.all (fun z => rg z lo hi) with
      | true =>
        refine ⟨-1, ⟨fun _ => rfl, fun h0 => (by rw [hall, hl] at h0; cases h0), fun j hj ht hf => ?_⟩⟩
        rw [List.all_eq_true] at hl
        match j with
        | 0 => simp only [List.getElem_cons_zero] at hf; rw [hx] at hf; cases hf
        | j + 1 => simp only [List.getElem_cons_succ] at hf; rw [hl _ (List.getElem_mem _)] at hf; cases hf
      | false =>
        refine ⟨r + 1, ⟨fun h0 => (by rw [hall, hl] at h0; cases h0), fun _ => by have := h.some_ hl; omega, fun j hj ht hf => ?_⟩⟩
        match j with
        | 0 => simp only [List.getElem_cons_zero] at hf; rw [hx] at hf; cases hf
        | j + 1 =>
          simp only [List.getElem_cons_succ] at hf
          have := h.at_ j (by simpa using hj) (fun e he => ht e (by simp [he])) hf
          rw [this]
          rfl

set_option maxHeartbeats 4000000 in
theorem IdxI_any (lo hi : Int) (gl gm : Nat) (A : Option Addr) (n c : Nat) (l : List Int) (w : World) (h0 : w.cell? ⟨gl, 0, none⟩ = some (.int .i64 lo)) (h1 : w.cell? ⟨gm, 0, none⟩ = some (.int .i64 hi)) (h : Ints w (.slice A n c) l) (r : Int) (hr : BadI lo hi l r) :
    Calls Tryz.prog 100 #[.slice A n c, .func (.func 89) #[] #[.pointer (some ⟨gl, 0, none⟩), .pointer (some ⟨gm, 0, none⟩)]] w fun y w' => y = .returned (.int .i64 r) ∧ w = w' := by
  have eg : ∀ args w, (callFunc 89 args).run Tryz.prog w = .ok (.enter 89 args) w := enters_of Tryz.func89 (by kernel_rfl) rfl
  obtain ⟨hn, hnc, hcm, hcell⟩ := h.at_
  have in1 : (n : Int) ≤ 9223372036854775807 := by omega
  have HH := Lib.hid (And.intro hn (And.intro hr hcell))
  have HB := Lib.hid fun z b hb => beyond_any z lo hi gl gm w h0 h1 b hb
  clear h hn hnc hcm hr hcell h0 h1
  go_enter Tryz.func100, Tryz.ntmps100
  go_wp2_with fail
  go_loopw [8] (fun ii wr => ∃ (j : Nat), j ≤ n ∧ ii = .int .i64 (j : Int) ∧ Hid (∀ e ∈ l.take j, rg e lo hi = true) ∧ w = wr) (fun ii _ => n - (intOf ii).toNat)
  case atStart => exact ⟨0, Nat.zero_le _, rfl, Lib.hid (by simp), rfl⟩
  case round =>
    obtain ⟨j, hj, rfl, HT, rfl⟩ := hrel
    by_cases hlt : j < n
    · have ii : (j : Int) < (n : Int) := by omega
      have hjl : j < l.length := by have := HH.out.1; omega
      obtain ⟨b, off, rfl, hb, hc⟩ := HH.out.2.2 (by omega)
      have hcj := hc j hlt
      simp only [List.getD, List.getElem?_eq_getElem hjl, Option.getD_some] at hcj
      have hat := HH.out.2.1.at_ j hjl HT.out
      have htk : ∀ e ∈ l.take (j + 1), (e ∈ l.take j ∨ e = l[j]) := fun e he => by
        rw [List.take_succ_eq_append_getElem hjl] at he
        rcases List.mem_append.mp he with h1 | h1
        · exact Or.inl h1
        · exact Or.inr (List.mem_singleton.mp h1)
      obtain ⟨z, hz⟩ : ∃ z, z = l[j] := ⟨_, rfl⟩
      rw [← hz] at hcj hat htk
      cases hf : rg z lo hi with
      | false =>
        have hrj := Lib.hid (hat hf)
        have HU1 := Lib.hid (HB.out z true (by rw [hf]; rfl))
        clear hat htk hz hf hb hc
        go_wp2_with (go_at_fn 89; refine HU1.out.mono ?_; rintro y w' ⟨rfl, rfl⟩)
        go_ret
        exact ⟨by rw [hrj.out]; rfl, rfl⟩
      | true =>
        have HT2 : Hid (∀ e ∈ l.take (j + 1), rg e lo hi = true) := Lib.hid fun x hx => by
          rcases htk x hx with h | h
          · exact HT.out x h
          · rw [h]; exact hf
        have HU1 := Lib.hid (HB.out z false (by rw [hf]; rfl))
        clear hat htk hz hf hb hc
        go_wp2_with (go_at_fn 89; refine HU1.out.mono ?_; rintro y w' ⟨rfl, rfl⟩)
        go_roundw
        case rel => exact ⟨j + 1, by omega, by go_num, HT2, trivial⟩
        case measure => simp [intOf]; omega
    · obtain rfl : j = n := by omega
      have ii : ¬ (j : Int) < (j : Int) := by omega
      have hm1 : r = -1 := HH.out.2.1.none_ (List.all_eq_true.2 fun e he => HT.out e (by rw [List.take_of_length_le (by have := HH.out.1; omega)]; exact he))
      have HM := Lib.hid hm1
      clear hm1
      go_wp2_with fail
      go_ret
      exact ⟨by rw [HM.out]; rfl, rfl⟩

set_option maxHeartbeats 2000000 in
theorem ContI_any (lo hi : Int) (gl gm : Nat) (A : Option Addr) (n c : Nat) (l : List Int) (w : World) (h0 : w.cell? ⟨gl, 0, none⟩ = some (.int .i64 lo)) (h1 : w.cell? ⟨gm, 0, none⟩ = some (.int .i64 hi)) (h : Ints w (.slice A n c) l) (b : Bool) (hb : b = !l.all (fun z => rg z lo hi)) :
    Calls Tryz.prog 90 #[.slice A n c, .func (.func 89) #[] #[.pointer (some ⟨gl, 0, none⟩), .pointer (some ⟨gm, 0, none⟩)]] w fun y w' => y = .returned (.bool b) ∧ w = w' := by
  obtain ⟨r, hr⟩ := badI_ex lo hi l
  have CI := Lib.hid (IdxI_any lo hi gl gm A n c l w h0 h1 h r hr)
  have hcase : (r = -1 ∧ b = false) ∨ (0 ≤ r ∧ b = true) := by
    cases hl : l.all (fun z => rg z lo hi) with
    | true => exact Or.inl ⟨hr.none_ hl, by rw [hb, hl]; rfl⟩
    | false => exact Or.inr ⟨hr.some_ hl, by rw [hb, hl]; rfl⟩
  clear h0 h1 h hb hr
  rcases hcase with ⟨rfl, rfl⟩ | ⟨h0, rfl⟩
  all_goals
    go_enter Tryz.func90, Tryz.ntmps90
    go_wp2_with (go_at_call 100; go_must (refine CI.out.mono ?_; rintro y w1 ⟨rfl, rfl⟩))
    go_ret
    exact ⟨rfl, rfl⟩

set_option maxHeartbeats 2000000 in
theorem within_any (lo hi : Int) (A : Option Addr) (n c : Nat) (l : List Int) (w : World) (h : Ints w (.slice A n c) l) (b : Bool) (hb : b = l.all (fun z => rg z lo hi)) :
    Calls Tryz.prog 70 #[.int .i64 lo, .int .i64 hi, .slice A n c] w fun y w' => y = .returned (.bool b) ∧ Below w.heap.size w w' := by
  obtain ⟨W, g0, g1, hW, hg0, hg1, hbl, hq0, hq1, hsz⟩ := two_box w (.cells #[.int .i64 lo] 3) (.cells #[.int .i64 hi] 3)
  have c0 : W.cell? ⟨g0, 0, none⟩ = some (.int .i64 lo) := by rw [cell_of_row W g0 0 _ _ (0, 0) hq0]; rfl
  have c1 : W.cell? ⟨g1, 0, none⟩ = some (.int .i64 hi) := by rw [cell_of_row W g1 0 _ _ (0, 0) hq1]; rfl
  have CC := Lib.hid (ContI_any lo hi g0 g1 A n c l W c0 c1 (h.below hbl) (!b) (by rw [hb]))
  have HW := Lib.hid (And.intro hW (And.intro hg0 hg1))
  have HE := Lib.hid hbl
  clear hW hg0 hg1 hbl hq0 hq1 hsz c0 c1 h hb
  cases b
  all_goals
    go_enter Tryz.func70, Tryz.ntmps70
    go_upto_region 1 with fail
    rw [← HW.out.1]
    try simp only [World.size_alloc]
    try rw [← HW.out.2.1]
    try rw [← HW.out.2.2]
    go_wp2_with (go_at_call 90; go_must (refine CC.out.mono ?_; rintro y w1 ⟨rfl, rfl⟩))
    go_ret
    exact ⟨rfl, HE.out⟩

def numbersM (m : Ms) : Bool := [m.kind].all (fun z => rg z 1 6) && [m.frm, m.to].all (fun z => rg z 1 64) && decide (m.frm ≠ m.to) && [m.term].all (fun z => rg z 1 1099511627776) && [m.index, m.logTerm, m.commit, m.round, m.off].all (fun z => rg z 0 1099511627776)
theorem mayM_two (m : Ms) : mayM m = (numbersM m && listsM m) := by
  unfold mayM mayM1 mayM2 numbersM listsM
  simp only [List.all_cons, List.all_nil, Bool.and_true, Bool.and_assoc]

set_option maxHeartbeats 8000000 in
theorem numbers_any (m : Ms) (Ad : Option Addr) (nd cd : Nat) (Ae : Option Addr) (ne ce : Nat) (w : World) (h : InM m Ad nd cd Ae ne ce w) (b : Bool) (hb : b = numbersM m) :
    Calls Tryz.prog 38 #[.agg #[.int .i64 m.kind, .int .i64 m.frm, .int .i64 m.to, .int .i64 m.term, .int .i64 m.index, .int .i64 m.logTerm, .int .i64 m.commit, .int .i64 m.round, .bool m.ok, .int .i64 m.off, .slice Ad nd cd, .slice Ae ne ce]] w fun y w' => y = .returned (.bool b) ∧ Below w.heap.size w w' := by
  obtain ⟨W1, g, hW1, hg, hb1, hq, hsz⟩ := one_box w (.cells #[.int .i64 m.kind, .int .i64 m.frm, .int .i64 m.to, .int .i64 m.term, .int .i64 m.index, .int .i64 m.logTerm, .int .i64 m.commit, .int .i64 m.round, .bool m.ok, .int .i64 m.off, .slice Ad nd cd, .slice Ae ne ce] 30)
  have HW := Lib.hid (And.intro hW1 hg)
  have HE := Lib.hid hb1
  have HC := Lib.hid fun W (hW : Below W1.heap.size W1 W) => cells12 ((hW.block g (obj_lt hq)).trans hq)
  obtain ⟨i0, i1, i2, i3, i4, i5, i6, i7, i9⟩ := h.i0
  have HI := Lib.hid (And.intro (show ∀ z ∈ [m.kind], inI z by simp [i0]) (And.intro (show ∀ z ∈ [m.frm, m.to], inI z by simp [i1, i2]) (And.intro (show ∀ z ∈ [m.term], inI z by simp [i3]) (show ∀ z ∈ [m.index, m.logTerm, m.commit, m.round, m.off], inI z by simp [i4, i5, i6, i7, i9]))))
  obtain ⟨b1, e1⟩ : ∃ b1, b1 = [m.kind].all (fun z => rg z 1 6) := ⟨_, rfl⟩
  obtain ⟨b2, e2⟩ : ∃ b2, b2 = [m.frm, m.to].all (fun z => rg z 1 64) := ⟨_, rfl⟩
  obtain ⟨b4, e4⟩ : ∃ b4, b4 = [m.term].all (fun z => rg z 1 1099511627776) := ⟨_, rfl⟩
  obtain ⟨b5, e5⟩ : ∃ b5, b5 = [m.index, m.logTerm, m.commit, m.round, m.off].all (fun z => rg z 0 1099511627776) := ⟨_, rfl⟩
  have C1 := Lib.hid fun W hI => within_any 1 6 (some ⟨W1.heap.size, 0, none⟩) 1 1 [m.kind] W hI b1 e1
  have C2 := Lib.hid fun A W hI => within_any 1 64 A 2 2 [m.frm, m.to] W hI b2 e2
  have C4 := Lib.hid fun A W hI => within_any 1 1099511627776 A 1 1 [m.term] W hI b4 e4
  have C5 := Lib.hid fun A W hI => within_any 0 1099511627776 A 5 5 [m.index, m.logTerm, m.commit, m.round, m.off] W hI b5 e5
  have hcase : (b1 = false ∧ b = false) ∨ (b1 = true ∧ b2 = false ∧ b = false) ∨ (b1 = true ∧ b2 = true ∧ (m.frm != m.to) = false ∧ b = false) ∨ (b1 = true ∧ b2 = true ∧ (m.frm != m.to) = true ∧ b4 = false ∧ b = false) ∨ (b1 = true ∧ b2 = true ∧ (m.frm != m.to) = true ∧ b4 = true ∧ b = b5) := by
    unfold numbersM at hb
    rw [← e1, ← e2, ← e4, ← e5] at hb
    cases b1 with
    | false => exact Or.inl ⟨rfl, by simpa using hb⟩
    | true =>
      cases b2 with
      | false => exact Or.inr (Or.inl ⟨rfl, rfl, by simpa using hb⟩)
      | true =>
        by_cases h3 : m.frm = m.to
        · exact Or.inr (Or.inr (Or.inl ⟨rfl, rfl, by simp [h3], by simpa [h3] using hb⟩))
        · cases b4 with
          | false => exact Or.inr (Or.inr (Or.inr (Or.inl ⟨rfl, rfl, by simp [h3], rfl, by simpa [h3] using hb⟩)))
          | true => exact Or.inr (Or.inr (Or.inr (Or.inr ⟨rfl, rfl, by simp [h3], rfl, by simpa [h3] using hb⟩)))
  obtain ⟨z0, z1, z2, z3, z4, z5, z6, z7, z8, z9, z10, z11⟩ := cells12 hq
  clear hW1 hg hb1 hq hsz h hb e1 e2 e4 e5 i0 i1 i2 i3 i4 i5 i6 i7 i9
  rcases hcase with ⟨rfl, rfl⟩ | ⟨rfl, rfl, rfl⟩ | ⟨rfl, rfl, h3, rfl⟩ | ⟨rfl, rfl, h3, rfl, rfl⟩ | ⟨rfl, rfl, h3, rfl, rfl⟩
  · go_enter Tryz.func38, Tryz.ntmps38
    go_upto_region 1 with fail
    rw [← HW.out.1, ← HW.out.2]
    go_wp2_with (first
      | (go_at_call 70; refine (C1.out _ (Ints.lit (heap_alloc_new W1 _) rfl rfl (by omega) HI.out.1)).mono ?_; rintro y w1 ⟨rfl, hb⟩; have H1 := Lib.hid (Below.box (Below.refl _ _) hb); clear hb; obtain ⟨z0, z1, z2, z3, z4, z5, z6, z7, z8, z9, z10, z11⟩ := HC.out _ H1.out))
    go_ret
    exact ⟨rfl, HE.out.trans (H1.out.mono HE.out.size)⟩
  · go_enter Tryz.func38, Tryz.ntmps38
    go_upto_region 1 with fail
    rw [← HW.out.1, ← HW.out.2]
    go_wp2_with (first
      | (go_at_call 70; refine (C2.out _ _ (Ints.lit (heap_alloc_new w1 _) rfl rfl (by omega) HI.out.2.1)).mono ?_; rintro y w2 ⟨rfl, hb⟩; have H2 := Lib.hid (Below.box H1.out hb); clear hb; obtain ⟨z0, z1, z2, z3, z4, z5, z6, z7, z8, z9, z10, z11⟩ := HC.out _ H2.out)
      | (go_at_call 70; refine (C1.out _ (Ints.lit (heap_alloc_new W1 _) rfl rfl (by omega) HI.out.1)).mono ?_; rintro y w1 ⟨rfl, hb⟩; have H1 := Lib.hid (Below.box (Below.refl _ _) hb); clear hb; obtain ⟨z0, z1, z2, z3, z4, z5, z6, z7, z8, z9, z10, z11⟩ := HC.out _ H1.out))
    go_ret
    exact ⟨rfl, HE.out.trans (H2.out.mono HE.out.size)⟩
  · go_enter Tryz.func38, Tryz.ntmps38
    go_upto_region 1 with fail
    rw [← HW.out.1, ← HW.out.2]
    go_wp2_with (first
      | (go_at_call 70; refine (C2.out _ _ (Ints.lit (heap_alloc_new w1 _) rfl rfl (by omega) HI.out.2.1)).mono ?_; rintro y w2 ⟨rfl, hb⟩; have H2 := Lib.hid (Below.box H1.out hb); clear hb; obtain ⟨z0, z1, z2, z3, z4, z5, z6, z7, z8, z9, z10, z11⟩ := HC.out _ H2.out)
      | (go_at_call 70; refine (C1.out _ (Ints.lit (heap_alloc_new W1 _) rfl rfl (by omega) HI.out.1)).mono ?_; rintro y w1 ⟨rfl, hb⟩; have H1 := Lib.hid (Below.box (Below.refl _ _) hb); clear hb; obtain ⟨z0, z1, z2, z3, z4, z5, z6, z7, z8, z9, z10, z11⟩ := HC.out _ H1.out))
    go_ret
    exact ⟨rfl, HE.out.trans (H2.out.mono HE.out.size)⟩
  · go_enter Tryz.func38, Tryz.ntmps38
    go_upto_region 1 with fail
    rw [← HW.out.1, ← HW.out.2]
    go_wp2_with (first
      | (go_at_call 70; refine (C4.out _ _ (Ints.lit (heap_alloc_new w2 _) rfl rfl (by omega) HI.out.2.2.1)).mono ?_; rintro y w4 ⟨rfl, hb⟩; have H4 := Lib.hid (Below.box H2.out hb); clear hb; obtain ⟨z0, z1, z2, z3, z4, z5, z6, z7, z8, z9, z10, z11⟩ := HC.out _ H4.out)
      | (go_at_call 70; refine (C2.out _ _ (Ints.lit (heap_alloc_new w1 _) rfl rfl (by omega) HI.out.2.1)).mono ?_; rintro y w2 ⟨rfl, hb⟩; have H2 := Lib.hid (Below.box H1.out hb); clear hb; obtain ⟨z0, z1, z2, z3, z4, z5, z6, z7, z8, z9, z10, z11⟩ := HC.out _ H2.out)
      | (go_at_call 70; refine (C1.out _ (Ints.lit (heap_alloc_new W1 _) rfl rfl (by omega) HI.out.1)).mono ?_; rintro y w1 ⟨rfl, hb⟩; have H1 := Lib.hid (Below.box (Below.refl _ _) hb); clear hb; obtain ⟨z0, z1, z2, z3, z4, z5, z6, z7, z8, z9, z10, z11⟩ := HC.out _ H1.out))
    go_ret
    exact ⟨rfl, HE.out.trans (H4.out.mono HE.out.size)⟩
  · go_enter Tryz.func38, Tryz.ntmps38
    go_upto_region 1 with fail
    rw [← HW.out.1, ← HW.out.2]
    go_wp2_with (first
      | (go_at_call 70; refine (C5.out _ _ (Ints.lit (heap_alloc_new w4 _) rfl rfl (by omega) HI.out.2.2.2)).mono ?_; rintro y w5 ⟨rfl, hb⟩; have H5 := Lib.hid (Below.box H4.out hb); clear hb; obtain ⟨z0, z1, z2, z3, z4, z5, z6, z7, z8, z9, z10, z11⟩ := HC.out _ H5.out)
      | (go_at_call 70; refine (C4.out _ _ (Ints.lit (heap_alloc_new w2 _) rfl rfl (by omega) HI.out.2.2.1)).mono ?_; rintro y w4 ⟨rfl, hb⟩; have H4 := Lib.hid (Below.box H2.out hb); clear hb; obtain ⟨z0, z1, z2, z3, z4, z5, z6, z7, z8, z9, z10, z11⟩ := HC.out _ H4.out)
      | (go_at_call 70; refine (C2.out _ _ (Ints.lit (heap_alloc_new w1 _) rfl rfl (by omega) HI.out.2.1)).mono ?_; rintro y w2 ⟨rfl, hb⟩; have H2 := Lib.hid (Below.box H1.out hb); clear hb; obtain ⟨z0, z1, z2, z3, z4, z5, z6, z7, z8, z9, z10, z11⟩ := HC.out _ H2.out)
      | (go_at_call 70; refine (C1.out _ (Ints.lit (heap_alloc_new W1 _) rfl rfl (by omega) HI.out.1)).mono ?_; rintro y w1 ⟨rfl, hb⟩; have H1 := Lib.hid (Below.box (Below.refl _ _) hb); clear hb; obtain ⟨z0, z1, z2, z3, z4, z5, z6, z7, z8, z9, z10, z11⟩ := HC.out _ H1.out))
    go_ret
    exact ⟨rfl, HE.out.trans (H5.out.mono HE.out.size)⟩

set_option maxHeartbeats 4000000 in
theorem Check_any (m : Ms) (Ad : Option Addr) (nd cd : Nat) (Ae : Option Addr) (ne ce : Nat) (w : World) (hs : StdP w) (h : InM m Ad nd cd Ae ne ce w) (hse : SmallE 1000000 25663 m.ents) (k : Nat) (hk : k = (if mayM m = true then 0 else 1)) :
    Calls Tryz.prog 13 #[.agg #[.int .i64 m.kind, .int .i64 m.frm, .int .i64 m.to, .int .i64 m.term, .int .i64 m.index, .int .i64 m.logTerm, .int .i64 m.commit, .int .i64 m.round, .bool m.ok, .int .i64 m.off, .slice Ad nd cd, .slice Ae ne ce]] w fun y w' => y = .returned (er k) ∧ Below w.heap.size w w' := by
  obtain ⟨W1, g, hW1, hg, hb1, hq, hsz⟩ := one_box w (.cells #[.int .i64 m.kind, .int .i64 m.frm, .int .i64 m.to, .int .i64 m.term, .int .i64 m.index, .int .i64 m.logTerm, .int .i64 m.commit, .int .i64 m.round, .bool m.ok, .int .i64 m.off, .slice Ad nd cd, .slice Ae ne ce] 30)
  have HW := Lib.hid (And.intro hW1 hg)
  have HE := Lib.hid hb1
  have HC := Lib.hid fun W (hW : Below W1.heap.size W1 W) => cells12 ((hW.block g (obj_lt hq)).trans hq)
  obtain ⟨b1, e1⟩ : ∃ b1, b1 = numbersM m := ⟨_, rfl⟩
  obtain ⟨b2, e2⟩ : ∃ b2, b2 = listsM m := ⟨_, rfl⟩
  have C1 := Lib.hid (numbers_any m Ad nd cd Ae ne ce W1 (h.below hb1) b1 e1)
  have C2 := Lib.hid fun W (hW : Below W1.heap.size W1 W) => lists_any m Ad nd cd Ae ne ce W ((hs.more hb1).more hW) ((h.below hb1).below hW) hse b2 e2
  have hcase : (b1 = false ∧ k = 1) ∨ (b1 = true ∧ b2 = false ∧ k = 1) ∨ (b1 = true ∧ b2 = true ∧ k = 0) := by
    rw [mayM_two, ← e1, ← e2] at hk
    cases b1
    · exact Or.inl ⟨rfl, by simpa using hk⟩
    · cases b2
      · exact Or.inr (Or.inl ⟨rfl, rfl, by simpa using hk⟩)
      · exact Or.inr (Or.inr ⟨rfl, rfl, by simpa using hk⟩)
  obtain ⟨z0, z1, z2, z3, z4, z5, z6, z7, z8, z9, z10, z11⟩ := cells12 hq
  clear hW1 hg hb1 hq hsz h hs hse hk e1 e2
  rcases hcase with ⟨rfl, rfl⟩ | ⟨rfl, rfl, rfl⟩ | ⟨rfl, rfl, rfl⟩
  · go_enter Tryz.func13, Tryz.ntmps13
    go_upto_region 1 with fail
    rw [← HW.out.1, ← HW.out.2]
    go_wp2_with (go_at_call 38; go_must (refine C1.out.mono ?_; rintro y w1 ⟨rfl, hb⟩; have H1 := Lib.hid hb; clear hb))
    go_ret
    exact ⟨rfl, HE.out.trans (H1.out.mono HE.out.size)⟩
  all_goals
    go_enter Tryz.func13, Tryz.ntmps13
    go_upto_region 1 with fail
    rw [← HW.out.1, ← HW.out.2]
    go_wp2_with (first
      | (go_at_call 38; go_must (refine C1.out.mono ?_; rintro y w1 ⟨rfl, hb⟩; have H1 := Lib.hid hb; clear hb; obtain ⟨z0, z1, z2, z3, z4, z5, z6, z7, z8, z9, z10, z11⟩ := HC.out _ H1.out))
      | (go_at_call 39; go_must (refine (C2.out w1 H1.out).mono ?_; rintro y w2 ⟨rfl, hb⟩; have H2 := Lib.hid (H1.out.trans (hb.mono H1.out.size)); clear hb)))
    go_ret
    exact ⟨rfl, HE.out.trans (H2.out.mono HE.out.size)⟩

end Go.Proofs.YtfblgkcipnkhaaaGreatDoor.pk

/-
  The program's own message of bytes: its boxes; its head taken off.
-/
namespace Go.Proofs.YtfblgkcipnkhaaaGreatDoor.pk
open Go Go.RowKit
set_option maxRecDepth 100000

/-- A box of twelve cells of the program's. -/
def N12 (w : World) (g : Nat) (v0 v1 v2 v3 v4 v5 v6 v7 v8 v9 v10 v11 : Value) : Prop := w.heap[g]? = some (.cells #[v0, v1, v2, v3, v4, v5, v6, v7, v8, v9, v10, v11] 30 (0, 0))
theorem N12.lt {w : World} {g : Nat} {v0 v1 v2 v3 v4 v5 v6 v7 v8 v9 v10 v11 : Value} (h : N12 w g v0 v1 v2 v3 v4 v5 v6 v7 v8 v9 v10 v11) : g < w.heap.size := obj_lt h
theorem N12.to {w w' : World} {g : Nat} {v0 v1 v2 v3 v4 v5 v6 v7 v8 v9 v10 v11 : Value} (h : N12 w g v0 v1 v2 v3 v4 v5 v6 v7 v8 v9 v10 v11) (e : w'.heap[g]? = w.heap[g]?) : N12 w' g v0 v1 v2 v3 v4 v5 v6 v7 v8 v9 v10 v11 := e.trans h
theorem N12.set11 {w : World} {g : Nat} {v0 v1 v2 v3 v4 v5 v6 v7 v8 v9 v10 v11 : Value} (h : N12 w g v0 v1 v2 v3 v4 v5 v6 v7 v8 v9 v10 v11) (u : Value) : N12 (w.setCell ⟨g, 11, none⟩ u) g v0 v1 v2 v3 v4 v5 v6 v7 v8 v9 v10 u := by
  unfold N12 at h ⊢; simp [World.setCell, Array.getElem?_modify, h]

/-- Where Decode stands: its reader, the variable that holds it. -/
structure DK (W0 : World) (p gr : Nat) (W : World) (v : Value) (s : List UInt8) (k : Nat) : Prop where
  bel : Below W0.heap.size W0 W
  rd : RD W p v s k
  cel : W.heap[gr]? = some (.cells #[.pointer (some ⟨p, 0, none⟩)] 49 (0, 0))
  hp : W0.heap.size ≤ p
  hgr : p < gr
section
variable {W0 W W' : World} {p gr : Nat} {v v' : Value} {s s' : List UInt8} {k k' : Nat}
theorem DK.lt (h : DK W0 p gr W v s k) : gr < W.heap.size := obj_lt h.cel
theorem DK.cell (h : DK W0 p gr W v s k) : W.cell? ⟨gr, 0, none⟩ = some (.pointer (some ⟨p, 0, none⟩)) := by rw [cell_of_row W gr 0 _ _ (0, 0) h.cel]; rfl
theorem DK.read (h : DK W0 p gr W v s k) (hr : RD W' p v' s' k') (hg : W.grownBy W' (some p)) : DK W0 p gr W' v' s' k' :=
  ⟨Below.rd h.bel hg (Nat.le_refl _) h.hp, hr, (hg.block gr h.lt (by intro e; injection e with e; have := h.hgr; omega)).trans h.cel, h.hp, h.hgr⟩
theorem DK.low {C : Nat} (h : DK W0 p gr W v s k) (hb : Below C W W') (hC : gr < C) : DK W0 p gr W' v s k :=
  ⟨h.bel.trans (hb.mono (by have := h.hp; have := h.hgr; omega)), h.rd.below hb (by have := h.hgr; omega), (hb.block gr hC).trans h.cel, h.hp, h.hgr⟩
theorem DK.more (h : DK W0 p gr W v s k) (hb : Below W.heap.size W W') : DK W0 p gr W' v s k := h.low hb h.lt
end
theorem cell_at {W : World} {gr p : Nat} (h : W.heap[gr]? = some (.cells #[.pointer (some ⟨p, 0, none⟩)] 49 (0, 0))) : W.cell? ⟨gr, 0, none⟩ = some (.pointer (some ⟨p, 0, none⟩)) := by rw [cell_of_row W gr 0 _ _ (0, 0) h]; rfl

theorem step_fun {P : Program} {ops : Array Oper} {o : Oper} {a : Act} {w : World} {K : Act → World → Prop} {Q : Exit → Act → World → Prop} {E : Prop} (hgd : o.guard = none) (x : Operand) (xs : Array Operand) (ts : Array TypeId)
    (ho : o.op = .call { callee := .value x, args := xs, argTypes := ts }) (g : FuncId) (cap : Array Value) (hx : a.eval x = .func (.func g) #[] cap) (vs : Array Value) (hv : xs.toList.map a.eval ++ cap.toList = vs.toList)
    (eg : ∀ args w, (callFunc g args).run P w = .ok (.enter g args) w) {R : Ending → World → Prop} (hC : Calls P g vs w R) (hK : ∀ y w', R y w' → ∃ z, y = .returned z ∧ K (a.put o.dst z) w') :
    if Region.wanted o (yielded ops a.tmps) = true then Oper.wp P o a w K Q else E := by
  refine step_op' hgd ?_
  have hva : xs.map a.eval ++ cap = vs := Array.ext' (by simpa using hv)
  have h : (execOp a.eval o).run P w = .ok (.enter g vs) w := by
    unfold execOp
    simp only [ho, resolve, hx, Deferred.ofValue, invoke, Sem.run_bind, Sem.run_pure, Result.andThen_ok]
    rw [Array.empty_append, hva]
    exact (by simp [eg])
  unfold Oper.wp
  rw [h, Oper.upon_enter]
  refine hC.mono ?_
  intro y w' hy
  obtain ⟨z, rfl, hz⟩ := hK y w' hy
  exact hz
theorem step_box {ops : Array Oper} {o : Oper} {a : Act} {w : World} {K : Act → World → Prop} {Q : Exit → Act → World → Prop} {E : Prop} (hgd : o.guard = none) (ho : o.op = .alloc 30)
    (h : K (a.put o.dst (.pointer (some ⟨w.heap.size, 0, none⟩))) (w.alloc (.cells #[.int .i64 0, .int .i64 0, .int .i64 0, .int .i64 0, .int .i64 0, .int .i64 0, .int .i64 0, .int .i64 0, .bool false, .int .i64 0, .slice none 0 0, .slice none 0 0] 30))) : if Region.wanted o (yielded ops a.tmps) = true then Oper.wp Tryz.prog o a w K Q else E := by
  refine step_op' hgd ?_
  unfold Oper.wp execOp
  simp only [ho]
  go_simp
  exact h
theorem step_put12 {ops : Array Oper} {o : Oper} {a : Act} {w : World} {K : Act → World → Prop} {Q : Exit → Act → World → Prop} {E : Prop} (hgd : o.guard = none) (x y : Operand) (ho : o.op = .store 30 x y) (g : Nat) (hx : a.eval x = .pointer (some ⟨g, 0, none⟩))
    {u0 u1 u2 u3 u4 u5 u6 u7 u8 u9 u10 u11 : Value} {a1 a2 a3 a4 a5 a6 a7 a8 : Int} {a9 : Bool} {a10 : Int} {A A2 : Option Addr} {n c n2 c2 : Nat} (hy : a.eval y = .agg #[.int .i64 a1, .int .i64 a2, .int .i64 a3, .int .i64 a4, .int .i64 a5, .int .i64 a6, .int .i64 a7, .int .i64 a8, .bool a9, .int .i64 a10, .slice A n c, .slice A2 n2 c2]) (hm : N12 w g u0 u1 u2 u3 u4 u5 u6 u7 u8 u9 u10 u11)
    (h : ∀ F, N12 F g (.int .i64 a1) (.int .i64 a2) (.int .i64 a3) (.int .i64 a4) (.int .i64 a5) (.int .i64 a6) (.int .i64 a7) (.int .i64 a8) (.bool a9) (.int .i64 a10) (.slice A n c) (.slice A2 n2 c2) → (∀ B, B ≤ g → Below B w F) → (∀ k, k ≠ g → F.heap[k]? = w.heap[k]?) → F.heap.size = w.heap.size → K (a.put o.dst undef) F) : if Region.wanted o (yielded ops a.tmps) = true then Oper.wp Tryz.prog o a w K Q else E := by
  refine step_op' hgd ?_
  obtain ⟨z0, z1, z2, z3, z4, z5, z6, z7, z8, z9, z10, z11⟩ := cells12 hm
  have f0 := frozen_own hm 0
  have f1 := frozen_own hm 1
  have f2 := frozen_own hm 2
  have f3 := frozen_own hm 3
  have f4 := frozen_own hm 4
  have f5 := frozen_own hm 5
  have f6 := frozen_own hm 6
  have f7 := frozen_own hm 7
  have f8 := frozen_own hm 8
  have f9 := frozen_own hm 9
  have f10 := frozen_own hm 10
  have f11 := frozen_own hm 11
  obtain ⟨F, hF, hE, hbQ, hoth, hsF⟩ := put12 hm (.int .i64 a1) (.int .i64 a2) (.int .i64 a3) (.int .i64 a4) (.int .i64 a5) (.int .i64 a6) (.int .i64 a7) (.int .i64 a8) (.bool a9) (.int .i64 a10) (.slice A n c) (.slice A2 n2 c2)
  have hk := h F hE hbQ hoth hsF
  unfold Oper.wp execOp
  simp only [ho, hx, hy]
  rw [hF] at hk
  clear hF hE hbQ hoth hsF h hm
  go_simp
  exact hk

set_option maxHeartbeats 2000000 in
/-- 'number()'. -/
theorem numC_any (s : List UInt8) (k : Nat) (s' : List UInt8) (k' u : Nat) (h1 : rUint 1099511627776 (s, k) = ((s', k'), u)) (hu : u ≤ 1099511627776) (p gr : Nat) (v : Value) (w : World) (hs : StdP w) (hc : w.cell? ⟨gr, 0, none⟩ = some (.pointer (some ⟨p, 0, none⟩))) (h : RD w p v s k) :
    Calls Tryz.prog 25 #[.pointer (some ⟨gr, 0, none⟩)] w fun y w' => ∃ v', y = .returned (.int .i64 (u : Int)) ∧ RD w' p v' s' k' ∧ w.grownBy w' (some p) := by
  have C := Lib.hid (Uint_s p 1099511627776 s k s' k' u h1 v w hs h)
  have ww : ((1099511627776 : Nat) : Int) = 1099511627776 := rfl
  rw [ww] at C
  have wr := wrap_small hu
  clear h1 hu h hs ww
  go_enter Tryz.func25, Tryz.ntmps25
  go_wp2_with (go_at_call 26; go_must (refine C.out.mono ?_; rintro y w1 ⟨v', rfl, hr, hg⟩; have H1 := Lib.hid (And.intro hr hg); clear hr hg))
  go_ret
  exact ⟨v', rfl, H1.out.1, H1.out.2⟩


/-- Where the head's bytes lie, once the loop begins. -/
def Tc (W0 : World) (CB p gm q : Nat) : Prop := W0.heap.size ≤ q ∧ q < CB ∧ q ≠ p ∧ q ≠ gm
/-- A reader's call, and what it leaves. -/
theorem ls_read {W0 W W' : World} {p gr gm CB : Nat} {v v' u va : Value} {s s' xs : List UInt8} {k k' : Nat} {es : List En} {y0 y1 y2 y3 y4 y5 y6 y7 y8 y9 y10 y11 : Value} (hD : DK W0 p gr W v s k) (hgm : gr < gm) (hCB : gm < CB) (hN : N12 W gm y0 y1 y2 y3 y4 y5 y6 y7 y8 y9 y10 y11) (hX : SlT W (Tc W0 CB p gm) u xs) (hO : OwnE W CB (fun q => CB ≤ q) 57 va es)
    (hr : RD W' p v' s' k') (hg : W.grownBy W' (some p)) : DK W0 p gr W' v' s' k' ∧ N12 W' gm y0 y1 y2 y3 y4 y5 y6 y7 y8 y9 y10 y11 ∧ SlT W' (Tc W0 CB p gm) u xs ∧ OwnE W' CB (fun q => CB ≤ q) 57 va es := by
  have h1 := hD.hgr
  refine ⟨hD.read hr hg, hN.to (hg.block gm hN.lt (by intro e; injection e with e; omega)), ?_, ?_⟩
  · exact hX.kept fun q hq hq2 => hg.block q hq2 (by intro e; injection e with e; exact hq.2.2.1 e)
  · refine hO.kept (fun q hq ho => hg.block q hq (by intro e; injection e with e; rcases ho with h2 | h2; (have h3 : CB ≤ q := h2; omega); (have h3 := (hO.lt q h2).1; omega))) hg.size
theorem ls_more {W0 W W' : World} {p gr gm CB : Nat} {v u va : Value} {s xs : List UInt8} {k : Nat} {es : List En} {y0 y1 y2 y3 y4 y5 y6 y7 y8 y9 y10 y11 : Value} (hD : DK W0 p gr W v s k) (hN : N12 W gm y0 y1 y2 y3 y4 y5 y6 y7 y8 y9 y10 y11) (hX : SlT W (Tc W0 CB p gm) u xs) (hO : OwnE W CB (fun q => CB ≤ q) 57 va es)
    (hb : Below W.heap.size W W') : DK W0 p gr W' v s k ∧ N12 W' gm y0 y1 y2 y3 y4 y5 y6 y7 y8 y9 y10 y11 ∧ SlT W' (Tc W0 CB p gm) u xs ∧ OwnE W' CB (fun q => CB ≤ q) 57 va es :=
  ⟨hD.more hb, hN.to (hb.block gm hN.lt), hX.kept fun q _ hq2 => hb.block q hq2, hO.more hb⟩
theorem ld_bad {cnt j : Nat} {s : List UInt8} {k : Nat} {es : List En} {sF : List UInt8} {kF : Nat} {okF : Bool} {esF : List En} (h : LD cnt j s k true es sF kF okF esF) (hj : j < cnt) {s1 x : List UInt8} {k1 f : Nat} {e : En} (hr : rBytes 98 4200 (s, k) = ((s1, k1), x)) (hd : decE x = (e, f)) (hf : f ≠ 0) :
    (decide (doneR (sF, kF) = 0) && okF) = false := by
  by_cases hk : k = 0
  · subst hk
    have h1 := (ld_next h hj hr hd).bo
    rw [decide_eq_false hf, Bool.and_false, Bool.false_and] at h1
    rw [← h1, Bool.and_false]
  · obtain ⟨rfl, rfl, -, -⟩ := ld_end h (Or.inr hk)
    rw [decide_eq_false (by unfold doneR; rw [if_neg (by simp [hk])]; exact hk), Bool.false_and]
theorem rBytes_stop {s s1 x : List UInt8} {k k1 : Nat} (hr : rBytes 98 4200 (s, k) = ((s1, k1), x)) (hk : k ≠ 0) : x = [] := by
  unfold rBytes at hr
  rw [if_neg hk] at hr
  injection hr with _ h2
  exact h2.symm
theorem decE_nil_ : (decE []).2 = 3 := by
  have h1 := decE_kind []
  rcases h1 with h1 | h1
  · have h2 := (decE_inv h1).1
    have h3 := congrArg List.length h2
    unfold encE lUint at h3
    simp at h3
  · exact h1

/-- Where the head's bytes lie. -/
def Tq (W0 : World) (p gm : Nat) (W : World) (q : Nat) : Prop := W0.heap.size ≤ q ∧ q < W.heap.size ∧ q ≠ p ∧ q ≠ gm


set_option maxHeartbeats 64000000 in
theorem DecM_walk (A : Option Addr) (n c : Nat) (b : List UInt8) (w : World) (hs : StdP w) (h : Bys w (.slice A n c) b) (hn : n ≤ 140737488355328)
    (s1 : List UInt8) (k1 : Nat) (v1 : Nat) (h1 : rUint 1099511627776 (b, 0) = ((s1, k1), v1)) (l1 : v1 ≤ 1099511627776)
    (s2 : List UInt8) (k2 : Nat) (v2 : Nat) (h2 : rUint 1099511627776 (s1, k1) = ((s2, k2), v2)) (l2 : v2 ≤ 1099511627776)
    (s3 : List UInt8) (k3 : Nat) (v3 : Nat) (h3 : rUint 1099511627776 (s2, k2) = ((s3, k3), v3)) (l3 : v3 ≤ 1099511627776)
    (s4 : List UInt8) (k4 : Nat) (v4 : Nat) (h4 : rUint 1099511627776 (s3, k3) = ((s4, k4), v4)) (l4 : v4 ≤ 1099511627776)
    (s5 : List UInt8) (k5 : Nat) (v5 : Nat) (h5 : rUint 1099511627776 (s4, k4) = ((s5, k5), v5)) (l5 : v5 ≤ 1099511627776)
    (s6 : List UInt8) (k6 : Nat) (v6 : Nat) (h6 : rUint 1099511627776 (s5, k5) = ((s6, k6), v6)) (l6 : v6 ≤ 1099511627776)
    (s7 : List UInt8) (k7 : Nat) (v7 : Nat) (h7 : rUint 1099511627776 (s6, k6) = ((s7, k7), v7)) (l7 : v7 ≤ 1099511627776)
    (s8 : List UInt8) (k8 : Nat) (v8 : Nat) (h8 : rUint 1099511627776 (s7, k7) = ((s8, k8), v8)) (l8 : v8 ≤ 1099511627776)
    (s9 : List UInt8) (k9 : Nat) (v9 : Bool) (h9 : rBool (s8, k8) = ((s9, k9), v9))
    (s10 : List UInt8) (k10 : Nat) (v10 : Nat) (h10 : rUint 1099511627776 (s9, k9) = ((s10, k10), v10)) (l10 : v10 ≤ 1099511627776)
    (s11 : List UInt8) (k11 : Nat) (v11 : List UInt8) (h11 : rBytes 98 4096 (s10, k10) = ((s11, k11), v11))
    (hl10 : s10.length ≤ 140737488355328) (n11 : Nat) (hn11 : n11 = v11.length)
    (s12 : List UInt8) (k12 cnt : Nat) (h12 : rCount 64 (s11, k11) = ((s12, k12), cnt)) (hl12 : s12.length ≤ 140737488355328) (hcnt : cnt ≤ 64) (sF : List UInt8) (kF : Nat) (okF : Bool) (esF : List En) (ht : takeEs cnt (s12, k12) = (((sF, kF), okF), esF))
    (m : Ms) (kk : Nat) (hfin : (m, kk) = if (decide (doneR (sF, kF) = 0) && okF && mayM ⟨(v1 : Int), (v2 : Int), (v3 : Int), (v4 : Int), (v5 : Int), (v6 : Int), (v7 : Int), (v8 : Int), v9, (v10 : Int), v11, esF⟩) = true then (⟨(v1 : Int), (v2 : Int), (v3 : Int), (v4 : Int), (v5 : Int), (v6 : Int), (v7 : Int), (v8 : Int), v9, (v10 : Int), v11, esF⟩, 0) else (zm, 3)) (nd ne : Nat) (hnd : nd = m.data.length) (hne : ne = m.ents.length) :
    Calls Tryz.prog 11 #[.slice A n c] w fun y w' => ∃ Ad cd Ae ce, y = .returned (.tuple #[.agg #[.int .i64 m.kind, .int .i64 m.frm, .int .i64 m.to, .int .i64 m.term, .int .i64 m.index, .int .i64 m.logTerm, .int .i64 m.commit, .int .i64 m.round, .bool m.ok, .int .i64 m.off, .slice Ad nd cd, .slice Ae ne ce], er kk]) ∧ InT m Ad nd cd Ae ne ce (fun q => w.heap.size ≤ q ∧ q < w'.heap.size) w' ∧ Below w.heap.size w w' := by
  obtain ⟨W0, g0, hW0, hg0, hb0, hz0, hsz0⟩ := one_box w (.cells #[.int .i64 0, .int .i64 0, .int .i64 0, .int .i64 0, .int .i64 0, .int .i64 0, .int .i64 0, .int .i64 0, .bool false, .int .i64 0, .slice none 0 0, .slice none 0 0] 30)
  have hln := h.len_
  have HW := Lib.hid (And.intro hW0 hg0)
  have HE := Lib.hid (And.intro hb0 (And.intro (show N12 W0 g0 (.int .i64 0) (.int .i64 0) (.int .i64 0) (.int .i64 0) (.int .i64 0) (.int .i64 0) (.int .i64 0) (.int .i64 0) (.bool false) (.int .i64 0) (.slice none 0 0) (.slice none 0 0) from hz0) hsz0))
  have HS0 := hs.more hb0
  have HS := Lib.hid fun W (hW : Below W0.heap.size W0 W) => HS0.more hW
  have C0 := Lib.hid (Read_any A n c b W0 W0.heap.size ((h.below hb0).sl_) (by omega))
  have C1 := Lib.hid fun p gr v W hs hc h => numC_any b 0 s1 k1 v1 h1 l1 p gr v W hs hc h
  have C2 := Lib.hid fun p gr v W hs hc h => numC_any s1 k1 s2 k2 v2 h2 l2 p gr v W hs hc h
  have C3 := Lib.hid fun p gr v W hs hc h => numC_any s2 k2 s3 k3 v3 h3 l3 p gr v W hs hc h
  have C4 := Lib.hid fun p gr v W hs hc h => numC_any s3 k3 s4 k4 v4 h4 l4 p gr v W hs hc h
  have C5 := Lib.hid fun p gr v W hs hc h => numC_any s4 k4 s5 k5 v5 h5 l5 p gr v W hs hc h
  have C6 := Lib.hid fun p gr v W hs hc h => numC_any s5 k5 s6 k6 v6 h6 l6 p gr v W hs hc h
  have C7 := Lib.hid fun p gr v W hs hc h => numC_any s6 k6 s7 k7 v7 h7 l7 p gr v W hs hc h
  have C8 := Lib.hid fun p gr v W hs hc h => numC_any s7 k7 s8 k8 v8 h8 l8 p gr v W hs hc h
  have C9 := Lib.hid fun p v W h => Bool_s p s8 k8 s9 k9 v9 h9 v W h
  have C10 := Lib.hid fun p gr v W hs hc h => numC_any s9 k9 s10 k10 v10 h10 l10 p gr v W hs hc h
  have C11 := Lib.hid fun p v W hs h => Bytes_s p 4096 (by omega) s10 k10 hl10 s11 k11 v11 h11 n11 hn11 v W hs h
  have C12 := Lib.hid fun p v W hs h => Count_s p 64 (by omega) s11 k11 s12 k12 cnt h12 v W hs h
  have w64 : ((64 : Nat) : Int) = 64 := rfl
  rw [w64] at C12
  have e25 : ∀ args w, (callFunc 25 args).run Tryz.prog w = .ok (.enter 25 args) w := enters_of Tryz.func25 (by kernel_rfl) rfl
  have e27 : ∀ args w, (callFunc 27 args).run Tryz.prog w = .ok (.enter 27 args) w := enters_of Tryz.func27 (by kernel_rfl) rfl
  have e28 : ∀ args w, (callFunc 28 args).run Tryz.prog w = .ok (.enter 28 args) w := enters_of Tryz.func28 (by kernel_rfl) rfl
  have HLD := Lib.hid (ld_start ht)
  have HN := Lib.hid (And.intro hn11 (And.intro hl12 (And.intro hcnt (And.intro hfin (And.intro hnd hne)))))
  have HI0 := Lib.hid (show inI (v1 : Int) ∧ inI (v2 : Int) ∧ inI (v3 : Int) ∧ inI (v4 : Int) ∧ inI (v5 : Int) ∧ inI (v6 : Int) ∧ inI (v7 : Int) ∧ inI (v8 : Int) ∧ inI (v10 : Int) from ⟨in_small l1, in_small l2, in_small l3, in_small l4, in_small l5, in_small l6, in_small l7, in_small l8, in_small l10⟩)
  clear hW0 hg0 hb0 hz0 hsz0 hln h hn hs HS0 ht hfin hnd hne hcnt hl12 h12 hn11 hl10 w64 h1 h2 h3 h4 h5 h6 h7 h8 h9 h10 h11 l1 l2 l3 l4 l5 l6 l7 l8 l10
  go_enter Tryz.func11, Tryz.ntmps11
  go_upto_region 1 with fail
  rw [← HW.out.1]
  try rw [← HW.out.2]
  go_upto_region 3 with (go_at_call 24; go_must (refine C0.out.mono ?_; rintro y w1 ⟨p, v, rfl, hp, hr, hb⟩; have H1 := Lib.hid (And.intro hr hb); have HP := Lib.hid hp; clear hr hb hp))
  obtain ⟨w2, gr, hW2, hgr, hb2, hq2, hsz2⟩ := one_box w1 (.cells #[.pointer (some ⟨p, 0, none⟩)] 49)
  rw [← hW2, ← hgr]
  have HD := Lib.hid (show DK W0 p gr w2 v b 0 from ⟨H1.out.2.trans (hb2.mono H1.out.2.size), H1.out.1.below hb2 H1.out.1.lt, hq2, HP.out, by rw [hgr]; exact H1.out.1.lt⟩)
  clear hW2 hgr hb2 hq2 hsz2 H1 HP C0
  go_cut [6] (fun s6 W => ∃ (gm : Nat) (Ad : Option Addr) (cd : Nat) (v' : Value) (V : World), V = W ∧ s6 = .pointer (some ⟨gm, 0, none⟩) ∧ gr < gm ∧ DK W0 p gr V v' s11 k11 ∧ N12 V gm (.int .i64 (v1 : Int)) (.int .i64 (v2 : Int)) (.int .i64 (v3 : Int)) (.int .i64 (v4 : Int)) (.int .i64 (v5 : Int)) (.int .i64 (v6 : Int)) (.int .i64 (v7 : Int)) (.int .i64 (v8 : Int)) (.bool v9) (.int .i64 (v10 : Int)) (.slice Ad n11 cd) (.slice none 0 0) ∧ SlT V (Tq W0 p gm V) (.slice Ad n11 cd) v11)
  case first =>
    have hd0 : w2.drew.heap[gr]? = some (.cells #[.pointer (some ⟨p, 0, none⟩)] 49 (0, 0)) := HD.out.cel
    refine wp_region_held_drew (S := fun W => W.heap[gr]? = some (.cells #[.pointer (some ⟨p, 0, none⟩)] 49 (0, 0))) (by kernel_rfl) hd0 (fun hHeld => ?_)
    obtain ⟨u0, hu0⟩ : ∃ V, V = w2.drew := ⟨_, rfl⟩
    have hd := HD.out.more (W' := w2.drew) (Below.refl _ _).drew
    rw [← hu0] at hd hHeld ⊢
    have HD := Lib.hid hd
    clear hd hd0 hu0
    refine wpAnyH_take (i := 0) (oi := { dst := Option.some 12, op := Op.move (Operand.tmp 5), type := 53, pos := "bytes.go:34", after := #[], guard := Option.none }) (v := .func (.func 25) #[] #[.pointer (some ⟨gr, 0, none⟩)]) rfl (by kernel_rfl) (by kernel_rfl) (by kernel_rfl) (fun _ _ _ h => h) (Or.inl ⟨by rfl, ?_⟩) hHeld ?_
    · intro W hSw
      go_simp
    simp only [Act.put, List.setIfInBounds_toArray, List.set_cons_zero, List.set_cons_succ]
    refine wpAnyH_take (i := 2) (oi := { dst := Option.some 14, op := Op.move (Operand.tmp 5), type := 53, pos := "bytes.go:34", after := #[], guard := Option.none }) (v := .func (.func 25) #[] #[.pointer (some ⟨gr, 0, none⟩)]) rfl (by kernel_rfl) (by kernel_rfl) (by kernel_rfl) (fun _ _ _ h => h) (Or.inl ⟨by rfl, ?_⟩) hHeld ?_
    · intro W hSw
      go_simp
    simp only [Act.put, List.setIfInBounds_toArray, List.set_cons_zero, List.set_cons_succ]
    refine wpAnyH_take (i := 4) (oi := { dst := Option.some 16, op := Op.move (Operand.tmp 5), type := 53, pos := "bytes.go:34", after := #[], guard := Option.none }) (v := .func (.func 25) #[] #[.pointer (some ⟨gr, 0, none⟩)]) rfl (by kernel_rfl) (by kernel_rfl) (by kernel_rfl) (fun _ _ _ h => h) (Or.inl ⟨by rfl, ?_⟩) hHeld ?_
    · intro W hSw
      go_simp
    simp only [Act.put, List.setIfInBounds_toArray, List.set_cons_zero, List.set_cons_succ]
    refine wpAnyH_take (i := 6) (oi := { dst := Option.some 18, op := Op.move (Operand.tmp 5), type := 53, pos := "bytes.go:34", after := #[], guard := Option.none }) (v := .func (.func 25) #[] #[.pointer (some ⟨gr, 0, none⟩)]) rfl (by kernel_rfl) (by kernel_rfl) (by kernel_rfl) (fun _ _ _ h => h) (Or.inl ⟨by rfl, ?_⟩) hHeld ?_
    · intro W hSw
      go_simp
    simp only [Act.put, List.setIfInBounds_toArray, List.set_cons_zero, List.set_cons_succ]
    refine wpAnyH_take (i := 8) (oi := { dst := Option.some 20, op := Op.move (Operand.tmp 5), type := 53, pos := "bytes.go:34", after := #[], guard := Option.none }) (v := .func (.func 25) #[] #[.pointer (some ⟨gr, 0, none⟩)]) rfl (by kernel_rfl) (by kernel_rfl) (by kernel_rfl) (fun _ _ _ h => h) (Or.inl ⟨by rfl, ?_⟩) hHeld ?_
    · intro W hSw
      go_simp
    simp only [Act.put, List.setIfInBounds_toArray, List.set_cons_zero, List.set_cons_succ]
    refine wpAnyH_take (i := 10) (oi := { dst := Option.some 22, op := Op.move (Operand.tmp 5), type := 53, pos := "bytes.go:34", after := #[], guard := Option.none }) (v := .func (.func 25) #[] #[.pointer (some ⟨gr, 0, none⟩)]) rfl (by kernel_rfl) (by kernel_rfl) (by kernel_rfl) (fun _ _ _ h => h) (Or.inl ⟨by rfl, ?_⟩) hHeld ?_
    · intro W hSw
      go_simp
    simp only [Act.put, List.setIfInBounds_toArray, List.set_cons_zero, List.set_cons_succ]
    refine wpAnyH_take (i := 12) (oi := { dst := Option.some 24, op := Op.move (Operand.tmp 5), type := 53, pos := "bytes.go:34", after := #[], guard := Option.none }) (v := .func (.func 25) #[] #[.pointer (some ⟨gr, 0, none⟩)]) rfl (by kernel_rfl) (by kernel_rfl) (by kernel_rfl) (fun _ _ _ h => h) (Or.inl ⟨by rfl, ?_⟩) hHeld ?_
    · intro W hSw
      go_simp
    simp only [Act.put, List.setIfInBounds_toArray, List.set_cons_zero, List.set_cons_succ]
    refine wpAnyH_take (i := 14) (oi := { dst := Option.some 26, op := Op.move (Operand.tmp 5), type := 53, pos := "bytes.go:34", after := #[], guard := Option.none }) (v := .func (.func 25) #[] #[.pointer (some ⟨gr, 0, none⟩)]) rfl (by kernel_rfl) (by kernel_rfl) (by kernel_rfl) (fun _ _ _ h => h) (Or.inl ⟨by rfl, ?_⟩) hHeld ?_
    · intro W hSw
      go_simp
    simp only [Act.put, List.setIfInBounds_toArray, List.set_cons_zero, List.set_cons_succ]
    refine wpAnyH_take (i := 18) (oi := { dst := Option.some 30, op := Op.move (Operand.tmp 5), type := 53, pos := "bytes.go:34", after := #[], guard := Option.none }) (v := .func (.func 25) #[] #[.pointer (some ⟨gr, 0, none⟩)]) rfl (by kernel_rfl) (by kernel_rfl) (by kernel_rfl) (fun _ _ _ h => h) (Or.inl ⟨by rfl, ?_⟩) hHeld ?_
    · intro W hSw
      go_simp
    simp only [Act.put, List.setIfInBounds_toArray, List.set_cons_zero, List.set_cons_succ]
    refine wpAnyH_take (i := 16) (oi := { dst := Option.some 28, op := Op.load 49 (Operand.tmp 4), type := 49, pos := "bytes.go:34", after := #[], guard := Option.none }) (v := .pointer (some ⟨p, 0, none⟩)) rfl (by kernel_rfl) (by kernel_rfl) (by kernel_rfl) (fun _ _ _ h => h) (Or.inl ⟨by rfl, ?_⟩) hHeld ?_
    · intro W hSw
      have hc := cell_at hSw
      go_simp
    simp only [Act.put, List.setIfInBounds_toArray, List.set_cons_zero, List.set_cons_succ]
    refine wpAnyH_take (i := 20) (oi := { dst := Option.some 32, op := Op.load 49 (Operand.tmp 4), type := 49, pos := "bytes.go:34", after := #[], guard := Option.none }) (v := .pointer (some ⟨p, 0, none⟩)) rfl (by kernel_rfl) (by kernel_rfl) (by kernel_rfl) (fun _ _ _ h => h) (Or.inl ⟨by rfl, ?_⟩) hHeld ?_
    · intro W hSw
      have hc := cell_at hSw
      go_simp
    simp only [Act.put, List.setIfInBounds_toArray, List.set_cons_zero, List.set_cons_succ]
    try simp only [Act.put, List.setIfInBounds_toArray, List.set_cons_zero, List.set_cons_succ]
    refine wpAnyH_ready (rs := [1, 23]) (by kernel_rfl) (by simp) ?_
    refine AllReadyH.cons (o := { dst := Option.some 13, op := Op.call { callee := Callee.value (Operand.tmp 12), args := #[], argTypes := #[] }, type := 3, pos := "bytes.go:35", after := #[{ on := 0, ground := Ground.data }], guard := Option.none }) rfl (fun K hK => ?_) (AllReadyH.cons (o := { dst := Option.some 6, op := Op.alloc 30, type := 0, pos := "bytes.go:34", after := #[], guard := Option.none }) rfl (fun K hK => ?_) AllReadyH.nil)
    rotate_left
    focus
      refine step_op' rfl ?_
      go_simp
      have hq := heap_alloc_new u0 (.cells #[.int .i64 0, .int .i64 0, .int .i64 0, .int .i64 0, .int .i64 0, .int .i64 0, .int .i64 0, .int .i64 0, .bool false, .int .i64 0, .slice none 0 0, .slice none 0 0] 30)
      have hsb := below_alloc u0 (.cells #[.int .i64 0, .int .i64 0, .int .i64 0, .int .i64 0, .int .i64 0, .int .i64 0, .int .i64 0, .int .i64 0, .bool false, .int .i64 0, .slice none 0 0, .slice none 0 0] 30)
      have hd := HD.out.more hsb
      have hgl := HD.out.lt
      refine hK.out _ _ hd.cel (fun hHeld2 => ?_)
      clear hK K hHeld
      have hHeld := hHeld2
      clear hHeld2
      try simp only [Act.put, List.setIfInBounds_toArray, List.set_cons_zero, List.set_cons_succ]
      obtain ⟨u78, hVN⟩ : ∃ W, W = u0.alloc (.cells #[.int .i64 0, .int .i64 0, .int .i64 0, .int .i64 0, .int .i64 0, .int .i64 0, .int .i64 0, .int .i64 0, .bool false, .int .i64 0, .slice none 0 0, .slice none 0 0] 30) := ⟨_, rfl⟩
      obtain ⟨gm, hgm⟩ : ∃ g, g = u0.heap.size := ⟨_, rfl⟩
      rw [← hVN] at hq hsb hd hHeld ⊢
      rw [← hgm] at hq hgl ⊢
      have EQ := Lib.hid (And.intro (show N12 u78 gm (.int .i64 0) (.int .i64 0) (.int .i64 0) (.int .i64 0) (.int .i64 0) (.int .i64 0) (.int .i64 0) (.int .i64 0) (.bool false) (.int .i64 0) (.slice none 0 0) (.slice none 0 0) from hq) hgl)
      have EQ0 := Lib.hid (obj_lt hq)
      have HD := Lib.hid hd
      clear hq hsb hd hgl hVN hgm
      refine wpAnyH_ready (rs := [1]) (by kernel_rfl) (by simp) ?_
      refine AllReadyH.cons (o := { dst := Option.some 13, op := Op.call { callee := Callee.value (Operand.tmp 12), args := #[], argTypes := #[] }, type := 3, pos := "bytes.go:35", after := #[{ on := 0, ground := Ground.data }], guard := Option.none }) rfl (fun K hK => ?_) AllReadyH.nil
      refine step_fun rfl _ _ _ rfl 25 _ rfl #[.pointer (some ⟨gr, 0, none⟩)] rfl e25 (C1.out p gr _ _ (HS.out _ HD.out.bel) HD.out.cell HD.out.rd) ?_
      rintro y u79 ⟨v', rfl, hr, hg⟩
      refine ⟨_, rfl, ?_⟩
      have hd := DK.read HD.out hr hg
      refine hK.out _ _ hd.cel (fun hHeld2 => ?_)
      clear hK K hHeld
      have hHeld := hHeld2
      clear hHeld2
      try simp only [Act.put, List.setIfInBounds_toArray, List.set_cons_zero, List.set_cons_succ]
      have EQ := Lib.hid (And.intro (EQ.out.1.to (hg.block gm EQ.out.1.lt (by intro e; injection e with e; have := EQ.out.2; have := HD.out.hgr; omega))) EQ.out.2)
      have HD := Lib.hid hd
      clear hd hr hg
      refine wpAnyH_ready (rs := [3]) (by kernel_rfl) (by simp) ?_
      refine AllReadyH.cons (o := { dst := Option.some 15, op := Op.call { callee := Callee.value (Operand.tmp 14), args := #[], argTypes := #[] }, type := 3, pos := "bytes.go:36", after := #[{ on := 2, ground := Ground.data }, { on := 1, ground := Ground.chain }], guard := Option.none }) rfl (fun K hK => ?_) AllReadyH.nil
      refine step_fun rfl _ _ _ rfl 25 _ rfl #[.pointer (some ⟨gr, 0, none⟩)] rfl e25 (C2.out p gr _ _ (HS.out _ HD.out.bel) HD.out.cell HD.out.rd) ?_
      rintro y u80 ⟨v', rfl, hr, hg⟩
      refine ⟨_, rfl, ?_⟩
      have hd := DK.read HD.out hr hg
      refine hK.out _ _ hd.cel (fun hHeld2 => ?_)
      clear hK K hHeld
      have hHeld := hHeld2
      clear hHeld2
      try simp only [Act.put, List.setIfInBounds_toArray, List.set_cons_zero, List.set_cons_succ]
      have EQ := Lib.hid (And.intro (EQ.out.1.to (hg.block gm EQ.out.1.lt (by intro e; injection e with e; have := EQ.out.2; have := HD.out.hgr; omega))) EQ.out.2)
      have HD := Lib.hid hd
      clear hd hr hg
      refine wpAnyH_ready (rs := [5]) (by kernel_rfl) (by simp) ?_
      refine AllReadyH.cons (o := { dst := Option.some 17, op := Op.call { callee := Callee.value (Operand.tmp 16), args := #[], argTypes := #[] }, type := 3, pos := "bytes.go:37", after := #[{ on := 4, ground := Ground.data }, { on := 3, ground := Ground.chain }], guard := Option.none }) rfl (fun K hK => ?_) AllReadyH.nil
      refine step_fun rfl _ _ _ rfl 25 _ rfl #[.pointer (some ⟨gr, 0, none⟩)] rfl e25 (C3.out p gr _ _ (HS.out _ HD.out.bel) HD.out.cell HD.out.rd) ?_
      rintro y u81 ⟨v', rfl, hr, hg⟩
      refine ⟨_, rfl, ?_⟩
      have hd := DK.read HD.out hr hg
      refine hK.out _ _ hd.cel (fun hHeld2 => ?_)
      clear hK K hHeld
      have hHeld := hHeld2
      clear hHeld2
      try simp only [Act.put, List.setIfInBounds_toArray, List.set_cons_zero, List.set_cons_succ]
      have EQ := Lib.hid (And.intro (EQ.out.1.to (hg.block gm EQ.out.1.lt (by intro e; injection e with e; have := EQ.out.2; have := HD.out.hgr; omega))) EQ.out.2)
      have HD := Lib.hid hd
      clear hd hr hg
      refine wpAnyH_ready (rs := [7]) (by kernel_rfl) (by simp) ?_
      refine AllReadyH.cons (o := { dst := Option.some 19, op := Op.call { callee := Callee.value (Operand.tmp 18), args := #[], argTypes := #[] }, type := 3, pos := "bytes.go:38", after := #[{ on := 6, ground := Ground.data }, { on := 5, ground := Ground.chain }], guard := Option.none }) rfl (fun K hK => ?_) AllReadyH.nil
      refine step_fun rfl _ _ _ rfl 25 _ rfl #[.pointer (some ⟨gr, 0, none⟩)] rfl e25 (C4.out p gr _ _ (HS.out _ HD.out.bel) HD.out.cell HD.out.rd) ?_
      rintro y u82 ⟨v', rfl, hr, hg⟩
      refine ⟨_, rfl, ?_⟩
      have hd := DK.read HD.out hr hg
      refine hK.out _ _ hd.cel (fun hHeld2 => ?_)
      clear hK K hHeld
      have hHeld := hHeld2
      clear hHeld2
      try simp only [Act.put, List.setIfInBounds_toArray, List.set_cons_zero, List.set_cons_succ]
      have EQ := Lib.hid (And.intro (EQ.out.1.to (hg.block gm EQ.out.1.lt (by intro e; injection e with e; have := EQ.out.2; have := HD.out.hgr; omega))) EQ.out.2)
      have HD := Lib.hid hd
      clear hd hr hg
      refine wpAnyH_ready (rs := [9]) (by kernel_rfl) (by simp) ?_
      refine AllReadyH.cons (o := { dst := Option.some 21, op := Op.call { callee := Callee.value (Operand.tmp 20), args := #[], argTypes := #[] }, type := 3, pos := "bytes.go:39", after := #[{ on := 8, ground := Ground.data }, { on := 7, ground := Ground.chain }], guard := Option.none }) rfl (fun K hK => ?_) AllReadyH.nil
      refine step_fun rfl _ _ _ rfl 25 _ rfl #[.pointer (some ⟨gr, 0, none⟩)] rfl e25 (C5.out p gr _ _ (HS.out _ HD.out.bel) HD.out.cell HD.out.rd) ?_
      rintro y u83 ⟨v', rfl, hr, hg⟩
      refine ⟨_, rfl, ?_⟩
      have hd := DK.read HD.out hr hg
      refine hK.out _ _ hd.cel (fun hHeld2 => ?_)
      clear hK K hHeld
      have hHeld := hHeld2
      clear hHeld2
      try simp only [Act.put, List.setIfInBounds_toArray, List.set_cons_zero, List.set_cons_succ]
      have EQ := Lib.hid (And.intro (EQ.out.1.to (hg.block gm EQ.out.1.lt (by intro e; injection e with e; have := EQ.out.2; have := HD.out.hgr; omega))) EQ.out.2)
      have HD := Lib.hid hd
      clear hd hr hg
      refine wpAnyH_ready (rs := [11]) (by kernel_rfl) (by simp) ?_
      refine AllReadyH.cons (o := { dst := Option.some 23, op := Op.call { callee := Callee.value (Operand.tmp 22), args := #[], argTypes := #[] }, type := 3, pos := "bytes.go:40", after := #[{ on := 10, ground := Ground.data }, { on := 9, ground := Ground.chain }], guard := Option.none }) rfl (fun K hK => ?_) AllReadyH.nil
      refine step_fun rfl _ _ _ rfl 25 _ rfl #[.pointer (some ⟨gr, 0, none⟩)] rfl e25 (C6.out p gr _ _ (HS.out _ HD.out.bel) HD.out.cell HD.out.rd) ?_
      rintro y u84 ⟨v', rfl, hr, hg⟩
      refine ⟨_, rfl, ?_⟩
      have hd := DK.read HD.out hr hg
      refine hK.out _ _ hd.cel (fun hHeld2 => ?_)
      clear hK K hHeld
      have hHeld := hHeld2
      clear hHeld2
      try simp only [Act.put, List.setIfInBounds_toArray, List.set_cons_zero, List.set_cons_succ]
      have EQ := Lib.hid (And.intro (EQ.out.1.to (hg.block gm EQ.out.1.lt (by intro e; injection e with e; have := EQ.out.2; have := HD.out.hgr; omega))) EQ.out.2)
      have HD := Lib.hid hd
      clear hd hr hg
      refine wpAnyH_ready (rs := [13]) (by kernel_rfl) (by simp) ?_
      refine AllReadyH.cons (o := { dst := Option.some 25, op := Op.call { callee := Callee.value (Operand.tmp 24), args := #[], argTypes := #[] }, type := 3, pos := "bytes.go:41", after := #[{ on := 12, ground := Ground.data }, { on := 11, ground := Ground.chain }], guard := Option.none }) rfl (fun K hK => ?_) AllReadyH.nil
      refine step_fun rfl _ _ _ rfl 25 _ rfl #[.pointer (some ⟨gr, 0, none⟩)] rfl e25 (C7.out p gr _ _ (HS.out _ HD.out.bel) HD.out.cell HD.out.rd) ?_
      rintro y u85 ⟨v', rfl, hr, hg⟩
      refine ⟨_, rfl, ?_⟩
      have hd := DK.read HD.out hr hg
      refine hK.out _ _ hd.cel (fun hHeld2 => ?_)
      clear hK K hHeld
      have hHeld := hHeld2
      clear hHeld2
      try simp only [Act.put, List.setIfInBounds_toArray, List.set_cons_zero, List.set_cons_succ]
      have EQ := Lib.hid (And.intro (EQ.out.1.to (hg.block gm EQ.out.1.lt (by intro e; injection e with e; have := EQ.out.2; have := HD.out.hgr; omega))) EQ.out.2)
      have HD := Lib.hid hd
      clear hd hr hg
      refine wpAnyH_ready (rs := [15]) (by kernel_rfl) (by simp) ?_
      refine AllReadyH.cons (o := { dst := Option.some 27, op := Op.call { callee := Callee.value (Operand.tmp 26), args := #[], argTypes := #[] }, type := 3, pos := "bytes.go:42", after := #[{ on := 14, ground := Ground.data }, { on := 13, ground := Ground.chain }], guard := Option.none }) rfl (fun K hK => ?_) AllReadyH.nil
      refine step_fun rfl _ _ _ rfl 25 _ rfl #[.pointer (some ⟨gr, 0, none⟩)] rfl e25 (C8.out p gr _ _ (HS.out _ HD.out.bel) HD.out.cell HD.out.rd) ?_
      rintro y u86 ⟨v', rfl, hr, hg⟩
      refine ⟨_, rfl, ?_⟩
      have hd := DK.read HD.out hr hg
      refine hK.out _ _ hd.cel (fun hHeld2 => ?_)
      clear hK K hHeld
      have hHeld := hHeld2
      clear hHeld2
      try simp only [Act.put, List.setIfInBounds_toArray, List.set_cons_zero, List.set_cons_succ]
      have EQ := Lib.hid (And.intro (EQ.out.1.to (hg.block gm EQ.out.1.lt (by intro e; injection e with e; have := EQ.out.2; have := HD.out.hgr; omega))) EQ.out.2)
      have HD := Lib.hid hd
      clear hd hr hg
      refine wpAnyH_ready (rs := [17]) (by kernel_rfl) (by simp) ?_
      refine AllReadyH.cons (o := { dst := Option.some 29, op := Op.call { callee := Callee.value (Operand.func 27), args := #[Operand.tmp 28], argTypes := #[49] }, type := 4, pos := "bytes.go:43", after := #[{ on := 16, ground := Ground.data }, { on := 15, ground := Ground.chain }], guard := Option.none }) rfl (fun K hK => ?_) AllReadyH.nil
      refine step_fun rfl _ _ _ rfl 27 _ rfl #[.pointer (some ⟨p, 0, none⟩)] rfl e27 (C9.out p _ _ HD.out.rd) ?_
      rintro y u87 ⟨v', rfl, hr, hg⟩
      refine ⟨_, rfl, ?_⟩
      have hd := DK.read HD.out hr hg
      refine hK.out _ _ hd.cel (fun hHeld2 => ?_)
      clear hK K hHeld
      have hHeld := hHeld2
      clear hHeld2
      try simp only [Act.put, List.setIfInBounds_toArray, List.set_cons_zero, List.set_cons_succ]
      have EQ := Lib.hid (And.intro (EQ.out.1.to (hg.block gm EQ.out.1.lt (by intro e; injection e with e; have := EQ.out.2; have := HD.out.hgr; omega))) EQ.out.2)
      have HD := Lib.hid hd
      clear hd hr hg
      refine wpAnyH_ready (rs := [19]) (by kernel_rfl) (by simp) ?_
      refine AllReadyH.cons (o := { dst := Option.some 31, op := Op.call { callee := Callee.value (Operand.tmp 30), args := #[], argTypes := #[] }, type := 3, pos := "bytes.go:44", after := #[{ on := 18, ground := Ground.data }, { on := 17, ground := Ground.chain }], guard := Option.none }) rfl (fun K hK => ?_) AllReadyH.nil
      refine step_fun rfl _ _ _ rfl 25 _ rfl #[.pointer (some ⟨gr, 0, none⟩)] rfl e25 (C10.out p gr _ _ (HS.out _ HD.out.bel) HD.out.cell HD.out.rd) ?_
      rintro y u88 ⟨v', rfl, hr, hg⟩
      refine ⟨_, rfl, ?_⟩
      have hd := DK.read HD.out hr hg
      refine hK.out _ _ hd.cel (fun hHeld2 => ?_)
      clear hK K hHeld
      have hHeld := hHeld2
      clear hHeld2
      try simp only [Act.put, List.setIfInBounds_toArray, List.set_cons_zero, List.set_cons_succ]
      have EQ := Lib.hid (And.intro (EQ.out.1.to (hg.block gm EQ.out.1.lt (by intro e; injection e with e; have := EQ.out.2; have := HD.out.hgr; omega))) EQ.out.2)
      have HD := Lib.hid hd
      clear hd hr hg
      have EQ0 := Lib.hid EQ.out.1.lt
      refine wpAnyH_ready (rs := [21]) (by kernel_rfl) (by simp) ?_
      refine AllReadyH.cons (o := { dst := Option.some 33, op := Op.call { callee := Callee.value (Operand.func 28), args := #[Operand.tmp 32, Operand.const (Value.int IntKind.i64 4096)], argTypes := #[49, 3] }, type := 22, pos := "bytes.go:45", after := #[{ on := 20, ground := Ground.data }, { on := 19, ground := Ground.chain }], guard := Option.none }) rfl (fun K hK => ?_) AllReadyH.nil
      refine step_fun rfl _ _ _ rfl 28 _ rfl #[.pointer (some ⟨p, 0, none⟩), .int .i64 4096] rfl e28 (C11.out p _ _ (HS.out _ HD.out.bel) HD.out.rd) ?_
      rintro y WF ⟨v', Ad, cd, rfl, hx, hr, hg⟩
      refine ⟨_, rfl, ?_⟩
      have hd := DK.read HD.out hr hg
      refine hK.out _ _ hd.cel (fun hHeld2 => ?_)
      clear hK K hHeld
      have hHeld := hHeld2
      clear hHeld2
      try simp only [Act.put, List.setIfInBounds_toArray, List.set_cons_zero, List.set_cons_succ]
      have EQ := Lib.hid (And.intro (EQ.out.1.to (hg.block gm EQ.out.1.lt (by intro e; injection e with e; have := EQ.out.2; have := HD.out.hgr; omega))) EQ.out.2)
      have XD := Lib.hid (hx.mono (T' := Tq W0 p gm WF) fun q hq => ⟨Nat.le_trans HD.out.bel.size hq.1, hq.2, by have := hq.1; have := HD.out.rd.lt; omega, by have := hq.1; have := EQ0.out; omega⟩)
      clear hx
      have HD := Lib.hid hd
      clear hd hr hg
      refine wpAnyH_take (i := 22) (oi := { dst := Option.some 34, op := Op.build 30 #[(0, Operand.tmp 13), (1, Operand.tmp 15), (2, Operand.tmp 17), (3, Operand.tmp 19), (4, Operand.tmp 21), (5, Operand.tmp 23), (6, Operand.tmp 25), (7, Operand.tmp 27), (8, Operand.tmp 29), (9, Operand.tmp 31), (10, Operand.tmp 33)], type := 30, pos := "bytes.go:34", after := #[{ on := 1, ground := Ground.data }, { on := 3, ground := Ground.data }, { on := 5, ground := Ground.data }, { on := 7, ground := Ground.data }, { on := 9, ground := Ground.data }, { on := 11, ground := Ground.data }, { on := 13, ground := Ground.data }, { on := 15, ground := Ground.data }, { on := 17, ground := Ground.data }, { on := 19, ground := Ground.data }, { on := 21, ground := Ground.data }], guard := Option.none }) (v := .agg #[.int .i64 (v1 : Int), .int .i64 (v2 : Int), .int .i64 (v3 : Int), .int .i64 (v4 : Int), .int .i64 (v5 : Int), .int .i64 (v6 : Int), .int .i64 (v7 : Int), .int .i64 (v8 : Int), .bool v9, .int .i64 (v10 : Int), .slice Ad n11 cd, .slice none 0 0]) rfl (by kernel_rfl) (by kernel_rfl) (by kernel_rfl) (fun _ _ _ h => h) (Or.inl ⟨by rfl, ?_⟩) hHeld ?_
      · intro W hSw
        go_simp
      simp only [Act.put, List.setIfInBounds_toArray, List.set_cons_zero, List.set_cons_succ]
    rotate_left
    focus
      refine step_fun rfl _ _ _ rfl 25 _ rfl #[.pointer (some ⟨gr, 0, none⟩)] rfl e25 (C1.out p gr _ _ (HS.out _ HD.out.bel) HD.out.cell HD.out.rd) ?_
      rintro y u1 ⟨v', rfl, hr, hg⟩
      refine ⟨_, rfl, ?_⟩
      have hd := DK.read HD.out hr hg
      refine hK.out _ _ hd.cel (fun hHeld2 => ?_)
      clear hK K hHeld
      have hHeld := hHeld2
      clear hHeld2
      try simp only [Act.put, List.setIfInBounds_toArray, List.set_cons_zero, List.set_cons_succ]
      have HD := Lib.hid hd
      clear hd hr hg
      refine wpAnyH_ready (rs := [3, 23]) (by kernel_rfl) (by simp) ?_
      refine AllReadyH.cons (o := { dst := Option.some 15, op := Op.call { callee := Callee.value (Operand.tmp 14), args := #[], argTypes := #[] }, type := 3, pos := "bytes.go:36", after := #[{ on := 2, ground := Ground.data }, { on := 1, ground := Ground.chain }], guard := Option.none }) rfl (fun K hK => ?_) (AllReadyH.cons (o := { dst := Option.some 6, op := Op.alloc 30, type := 0, pos := "bytes.go:34", after := #[], guard := Option.none }) rfl (fun K hK => ?_) AllReadyH.nil)
      rotate_left
      focus
        refine step_op' rfl ?_
        go_simp
        have hq := heap_alloc_new u1 (.cells #[.int .i64 0, .int .i64 0, .int .i64 0, .int .i64 0, .int .i64 0, .int .i64 0, .int .i64 0, .int .i64 0, .bool false, .int .i64 0, .slice none 0 0, .slice none 0 0] 30)
        have hsb := below_alloc u1 (.cells #[.int .i64 0, .int .i64 0, .int .i64 0, .int .i64 0, .int .i64 0, .int .i64 0, .int .i64 0, .int .i64 0, .bool false, .int .i64 0, .slice none 0 0, .slice none 0 0] 30)
        have hd := HD.out.more hsb
        have hgl := HD.out.lt
        refine hK.out _ _ hd.cel (fun hHeld2 => ?_)
        clear hK K hHeld
        have hHeld := hHeld2
        clear hHeld2
        try simp only [Act.put, List.setIfInBounds_toArray, List.set_cons_zero, List.set_cons_succ]
        obtain ⟨u67, hVN⟩ : ∃ W, W = u1.alloc (.cells #[.int .i64 0, .int .i64 0, .int .i64 0, .int .i64 0, .int .i64 0, .int .i64 0, .int .i64 0, .int .i64 0, .bool false, .int .i64 0, .slice none 0 0, .slice none 0 0] 30) := ⟨_, rfl⟩
        obtain ⟨gm, hgm⟩ : ∃ g, g = u1.heap.size := ⟨_, rfl⟩
        rw [← hVN] at hq hsb hd hHeld ⊢
        rw [← hgm] at hq hgl ⊢
        have EQ := Lib.hid (And.intro (show N12 u67 gm (.int .i64 0) (.int .i64 0) (.int .i64 0) (.int .i64 0) (.int .i64 0) (.int .i64 0) (.int .i64 0) (.int .i64 0) (.bool false) (.int .i64 0) (.slice none 0 0) (.slice none 0 0) from hq) hgl)
        have EQ0 := Lib.hid (obj_lt hq)
        have HD := Lib.hid hd
        clear hq hsb hd hgl hVN hgm
        refine wpAnyH_ready (rs := [3]) (by kernel_rfl) (by simp) ?_
        refine AllReadyH.cons (o := { dst := Option.some 15, op := Op.call { callee := Callee.value (Operand.tmp 14), args := #[], argTypes := #[] }, type := 3, pos := "bytes.go:36", after := #[{ on := 2, ground := Ground.data }, { on := 1, ground := Ground.chain }], guard := Option.none }) rfl (fun K hK => ?_) AllReadyH.nil
        refine step_fun rfl _ _ _ rfl 25 _ rfl #[.pointer (some ⟨gr, 0, none⟩)] rfl e25 (C2.out p gr _ _ (HS.out _ HD.out.bel) HD.out.cell HD.out.rd) ?_
        rintro y u68 ⟨v', rfl, hr, hg⟩
        refine ⟨_, rfl, ?_⟩
        have hd := DK.read HD.out hr hg
        refine hK.out _ _ hd.cel (fun hHeld2 => ?_)
        clear hK K hHeld
        have hHeld := hHeld2
        clear hHeld2
        try simp only [Act.put, List.setIfInBounds_toArray, List.set_cons_zero, List.set_cons_succ]
        have EQ := Lib.hid (And.intro (EQ.out.1.to (hg.block gm EQ.out.1.lt (by intro e; injection e with e; have := EQ.out.2; have := HD.out.hgr; omega))) EQ.out.2)
        have HD := Lib.hid hd
        clear hd hr hg
        refine wpAnyH_ready (rs := [5]) (by kernel_rfl) (by simp) ?_
        refine AllReadyH.cons (o := { dst := Option.some 17, op := Op.call { callee := Callee.value (Operand.tmp 16), args := #[], argTypes := #[] }, type := 3, pos := "bytes.go:37", after := #[{ on := 4, ground := Ground.data }, { on := 3, ground := Ground.chain }], guard := Option.none }) rfl (fun K hK => ?_) AllReadyH.nil
        refine step_fun rfl _ _ _ rfl 25 _ rfl #[.pointer (some ⟨gr, 0, none⟩)] rfl e25 (C3.out p gr _ _ (HS.out _ HD.out.bel) HD.out.cell HD.out.rd) ?_
        rintro y u69 ⟨v', rfl, hr, hg⟩
        refine ⟨_, rfl, ?_⟩
        have hd := DK.read HD.out hr hg
        refine hK.out _ _ hd.cel (fun hHeld2 => ?_)
        clear hK K hHeld
        have hHeld := hHeld2
        clear hHeld2
        try simp only [Act.put, List.setIfInBounds_toArray, List.set_cons_zero, List.set_cons_succ]
        have EQ := Lib.hid (And.intro (EQ.out.1.to (hg.block gm EQ.out.1.lt (by intro e; injection e with e; have := EQ.out.2; have := HD.out.hgr; omega))) EQ.out.2)
        have HD := Lib.hid hd
        clear hd hr hg
        refine wpAnyH_ready (rs := [7]) (by kernel_rfl) (by simp) ?_
        refine AllReadyH.cons (o := { dst := Option.some 19, op := Op.call { callee := Callee.value (Operand.tmp 18), args := #[], argTypes := #[] }, type := 3, pos := "bytes.go:38", after := #[{ on := 6, ground := Ground.data }, { on := 5, ground := Ground.chain }], guard := Option.none }) rfl (fun K hK => ?_) AllReadyH.nil
        refine step_fun rfl _ _ _ rfl 25 _ rfl #[.pointer (some ⟨gr, 0, none⟩)] rfl e25 (C4.out p gr _ _ (HS.out _ HD.out.bel) HD.out.cell HD.out.rd) ?_
        rintro y u70 ⟨v', rfl, hr, hg⟩
        refine ⟨_, rfl, ?_⟩
        have hd := DK.read HD.out hr hg
        refine hK.out _ _ hd.cel (fun hHeld2 => ?_)
        clear hK K hHeld
        have hHeld := hHeld2
        clear hHeld2
        try simp only [Act.put, List.setIfInBounds_toArray, List.set_cons_zero, List.set_cons_succ]
        have EQ := Lib.hid (And.intro (EQ.out.1.to (hg.block gm EQ.out.1.lt (by intro e; injection e with e; have := EQ.out.2; have := HD.out.hgr; omega))) EQ.out.2)
        have HD := Lib.hid hd
        clear hd hr hg
        refine wpAnyH_ready (rs := [9]) (by kernel_rfl) (by simp) ?_
        refine AllReadyH.cons (o := { dst := Option.some 21, op := Op.call { callee := Callee.value (Operand.tmp 20), args := #[], argTypes := #[] }, type := 3, pos := "bytes.go:39", after := #[{ on := 8, ground := Ground.data }, { on := 7, ground := Ground.chain }], guard := Option.none }) rfl (fun K hK => ?_) AllReadyH.nil
        refine step_fun rfl _ _ _ rfl 25 _ rfl #[.pointer (some ⟨gr, 0, none⟩)] rfl e25 (C5.out p gr _ _ (HS.out _ HD.out.bel) HD.out.cell HD.out.rd) ?_
        rintro y u71 ⟨v', rfl, hr, hg⟩
        refine ⟨_, rfl, ?_⟩
        have hd := DK.read HD.out hr hg
        refine hK.out _ _ hd.cel (fun hHeld2 => ?_)
        clear hK K hHeld
        have hHeld := hHeld2
        clear hHeld2
        try simp only [Act.put, List.setIfInBounds_toArray, List.set_cons_zero, List.set_cons_succ]
        have EQ := Lib.hid (And.intro (EQ.out.1.to (hg.block gm EQ.out.1.lt (by intro e; injection e with e; have := EQ.out.2; have := HD.out.hgr; omega))) EQ.out.2)
        have HD := Lib.hid hd
        clear hd hr hg
        refine wpAnyH_ready (rs := [11]) (by kernel_rfl) (by simp) ?_
        refine AllReadyH.cons (o := { dst := Option.some 23, op := Op.call { callee := Callee.value (Operand.tmp 22), args := #[], argTypes := #[] }, type := 3, pos := "bytes.go:40", after := #[{ on := 10, ground := Ground.data }, { on := 9, ground := Ground.chain }], guard := Option.none }) rfl (fun K hK => ?_) AllReadyH.nil
        refine step_fun rfl _ _ _ rfl 25 _ rfl #[.pointer (some ⟨gr, 0, none⟩)] rfl e25 (C6.out p gr _ _ (HS.out _ HD.out.bel) HD.out.cell HD.out.rd) ?_
        rintro y u72 ⟨v', rfl, hr, hg⟩
        refine ⟨_, rfl, ?_⟩
        have hd := DK.read HD.out hr hg
        refine hK.out _ _ hd.cel (fun hHeld2 => ?_)
        clear hK K hHeld
        have hHeld := hHeld2
        clear hHeld2
        try simp only [Act.put, List.setIfInBounds_toArray, List.set_cons_zero, List.set_cons_succ]
        have EQ := Lib.hid (And.intro (EQ.out.1.to (hg.block gm EQ.out.1.lt (by intro e; injection e with e; have := EQ.out.2; have := HD.out.hgr; omega))) EQ.out.2)
        have HD := Lib.hid hd
        clear hd hr hg
        refine wpAnyH_ready (rs := [13]) (by kernel_rfl) (by simp) ?_
        refine AllReadyH.cons (o := { dst := Option.some 25, op := Op.call { callee := Callee.value (Operand.tmp 24), args := #[], argTypes := #[] }, type := 3, pos := "bytes.go:41", after := #[{ on := 12, ground := Ground.data }, { on := 11, ground := Ground.chain }], guard := Option.none }) rfl (fun K hK => ?_) AllReadyH.nil
        refine step_fun rfl _ _ _ rfl 25 _ rfl #[.pointer (some ⟨gr, 0, none⟩)] rfl e25 (C7.out p gr _ _ (HS.out _ HD.out.bel) HD.out.cell HD.out.rd) ?_
        rintro y u73 ⟨v', rfl, hr, hg⟩
        refine ⟨_, rfl, ?_⟩
        have hd := DK.read HD.out hr hg
        refine hK.out _ _ hd.cel (fun hHeld2 => ?_)
        clear hK K hHeld
        have hHeld := hHeld2
        clear hHeld2
        try simp only [Act.put, List.setIfInBounds_toArray, List.set_cons_zero, List.set_cons_succ]
        have EQ := Lib.hid (And.intro (EQ.out.1.to (hg.block gm EQ.out.1.lt (by intro e; injection e with e; have := EQ.out.2; have := HD.out.hgr; omega))) EQ.out.2)
        have HD := Lib.hid hd
        clear hd hr hg
        refine wpAnyH_ready (rs := [15]) (by kernel_rfl) (by simp) ?_
        refine AllReadyH.cons (o := { dst := Option.some 27, op := Op.call { callee := Callee.value (Operand.tmp 26), args := #[], argTypes := #[] }, type := 3, pos := "bytes.go:42", after := #[{ on := 14, ground := Ground.data }, { on := 13, ground := Ground.chain }], guard := Option.none }) rfl (fun K hK => ?_) AllReadyH.nil
        refine step_fun rfl _ _ _ rfl 25 _ rfl #[.pointer (some ⟨gr, 0, none⟩)] rfl e25 (C8.out p gr _ _ (HS.out _ HD.out.bel) HD.out.cell HD.out.rd) ?_
        rintro y u74 ⟨v', rfl, hr, hg⟩
        refine ⟨_, rfl, ?_⟩
        have hd := DK.read HD.out hr hg
        refine hK.out _ _ hd.cel (fun hHeld2 => ?_)
        clear hK K hHeld
        have hHeld := hHeld2
        clear hHeld2
        try simp only [Act.put, List.setIfInBounds_toArray, List.set_cons_zero, List.set_cons_succ]
        have EQ := Lib.hid (And.intro (EQ.out.1.to (hg.block gm EQ.out.1.lt (by intro e; injection e with e; have := EQ.out.2; have := HD.out.hgr; omega))) EQ.out.2)
        have HD := Lib.hid hd
        clear hd hr hg
        refine wpAnyH_ready (rs := [17]) (by kernel_rfl) (by simp) ?_
        refine AllReadyH.cons (o := { dst := Option.some 29, op := Op.call { callee := Callee.value (Operand.func 27), args := #[Operand.tmp 28], argTypes := #[49] }, type := 4, pos := "bytes.go:43", after := #[{ on := 16, ground := Ground.data }, { on := 15, ground := Ground.chain }], guard := Option.none }) rfl (fun K hK => ?_) AllReadyH.nil
        refine step_fun rfl _ _ _ rfl 27 _ rfl #[.pointer (some ⟨p, 0, none⟩)] rfl e27 (C9.out p _ _ HD.out.rd) ?_
        rintro y u75 ⟨v', rfl, hr, hg⟩
        refine ⟨_, rfl, ?_⟩
        have hd := DK.read HD.out hr hg
        refine hK.out _ _ hd.cel (fun hHeld2 => ?_)
        clear hK K hHeld
        have hHeld := hHeld2
        clear hHeld2
        try simp only [Act.put, List.setIfInBounds_toArray, List.set_cons_zero, List.set_cons_succ]
        have EQ := Lib.hid (And.intro (EQ.out.1.to (hg.block gm EQ.out.1.lt (by intro e; injection e with e; have := EQ.out.2; have := HD.out.hgr; omega))) EQ.out.2)
        have HD := Lib.hid hd
        clear hd hr hg
        refine wpAnyH_ready (rs := [19]) (by kernel_rfl) (by simp) ?_
        refine AllReadyH.cons (o := { dst := Option.some 31, op := Op.call { callee := Callee.value (Operand.tmp 30), args := #[], argTypes := #[] }, type := 3, pos := "bytes.go:44", after := #[{ on := 18, ground := Ground.data }, { on := 17, ground := Ground.chain }], guard := Option.none }) rfl (fun K hK => ?_) AllReadyH.nil
        refine step_fun rfl _ _ _ rfl 25 _ rfl #[.pointer (some ⟨gr, 0, none⟩)] rfl e25 (C10.out p gr _ _ (HS.out _ HD.out.bel) HD.out.cell HD.out.rd) ?_
        rintro y u76 ⟨v', rfl, hr, hg⟩
        refine ⟨_, rfl, ?_⟩
        have hd := DK.read HD.out hr hg
        refine hK.out _ _ hd.cel (fun hHeld2 => ?_)
        clear hK K hHeld
        have hHeld := hHeld2
        clear hHeld2
        try simp only [Act.put, List.setIfInBounds_toArray, List.set_cons_zero, List.set_cons_succ]
        have EQ := Lib.hid (And.intro (EQ.out.1.to (hg.block gm EQ.out.1.lt (by intro e; injection e with e; have := EQ.out.2; have := HD.out.hgr; omega))) EQ.out.2)
        have HD := Lib.hid hd
        clear hd hr hg
        have EQ0 := Lib.hid EQ.out.1.lt
        refine wpAnyH_ready (rs := [21]) (by kernel_rfl) (by simp) ?_
        refine AllReadyH.cons (o := { dst := Option.some 33, op := Op.call { callee := Callee.value (Operand.func 28), args := #[Operand.tmp 32, Operand.const (Value.int IntKind.i64 4096)], argTypes := #[49, 3] }, type := 22, pos := "bytes.go:45", after := #[{ on := 20, ground := Ground.data }, { on := 19, ground := Ground.chain }], guard := Option.none }) rfl (fun K hK => ?_) AllReadyH.nil
        refine step_fun rfl _ _ _ rfl 28 _ rfl #[.pointer (some ⟨p, 0, none⟩), .int .i64 4096] rfl e28 (C11.out p _ _ (HS.out _ HD.out.bel) HD.out.rd) ?_
        rintro y WF ⟨v', Ad, cd, rfl, hx, hr, hg⟩
        refine ⟨_, rfl, ?_⟩
        have hd := DK.read HD.out hr hg
        refine hK.out _ _ hd.cel (fun hHeld2 => ?_)
        clear hK K hHeld
        have hHeld := hHeld2
        clear hHeld2
        try simp only [Act.put, List.setIfInBounds_toArray, List.set_cons_zero, List.set_cons_succ]
        have EQ := Lib.hid (And.intro (EQ.out.1.to (hg.block gm EQ.out.1.lt (by intro e; injection e with e; have := EQ.out.2; have := HD.out.hgr; omega))) EQ.out.2)
        have XD := Lib.hid (hx.mono (T' := Tq W0 p gm WF) fun q hq => ⟨Nat.le_trans HD.out.bel.size hq.1, hq.2, by have := hq.1; have := HD.out.rd.lt; omega, by have := hq.1; have := EQ0.out; omega⟩)
        clear hx
        have HD := Lib.hid hd
        clear hd hr hg
        refine wpAnyH_take (i := 22) (oi := { dst := Option.some 34, op := Op.build 30 #[(0, Operand.tmp 13), (1, Operand.tmp 15), (2, Operand.tmp 17), (3, Operand.tmp 19), (4, Operand.tmp 21), (5, Operand.tmp 23), (6, Operand.tmp 25), (7, Operand.tmp 27), (8, Operand.tmp 29), (9, Operand.tmp 31), (10, Operand.tmp 33)], type := 30, pos := "bytes.go:34", after := #[{ on := 1, ground := Ground.data }, { on := 3, ground := Ground.data }, { on := 5, ground := Ground.data }, { on := 7, ground := Ground.data }, { on := 9, ground := Ground.data }, { on := 11, ground := Ground.data }, { on := 13, ground := Ground.data }, { on := 15, ground := Ground.data }, { on := 17, ground := Ground.data }, { on := 19, ground := Ground.data }, { on := 21, ground := Ground.data }], guard := Option.none }) (v := .agg #[.int .i64 (v1 : Int), .int .i64 (v2 : Int), .int .i64 (v3 : Int), .int .i64 (v4 : Int), .int .i64 (v5 : Int), .int .i64 (v6 : Int), .int .i64 (v7 : Int), .int .i64 (v8 : Int), .bool v9, .int .i64 (v10 : Int), .slice Ad n11 cd, .slice none 0 0]) rfl (by kernel_rfl) (by kernel_rfl) (by kernel_rfl) (fun _ _ _ h => h) (Or.inl ⟨by rfl, ?_⟩) hHeld ?_
        · intro W hSw
          go_simp
        simp only [Act.put, List.setIfInBounds_toArray, List.set_cons_zero, List.set_cons_succ]
      rotate_left
      focus
        refine step_fun rfl _ _ _ rfl 25 _ rfl #[.pointer (some ⟨gr, 0, none⟩)] rfl e25 (C2.out p gr _ _ (HS.out _ HD.out.bel) HD.out.cell HD.out.rd) ?_
        rintro y u2 ⟨v', rfl, hr, hg⟩
        refine ⟨_, rfl, ?_⟩
        have hd := DK.read HD.out hr hg
        refine hK.out _ _ hd.cel (fun hHeld2 => ?_)
        clear hK K hHeld
        have hHeld := hHeld2
        clear hHeld2
        try simp only [Act.put, List.setIfInBounds_toArray, List.set_cons_zero, List.set_cons_succ]
        have HD := Lib.hid hd
        clear hd hr hg
        refine wpAnyH_ready (rs := [5, 23]) (by kernel_rfl) (by simp) ?_
        refine AllReadyH.cons (o := { dst := Option.some 17, op := Op.call { callee := Callee.value (Operand.tmp 16), args := #[], argTypes := #[] }, type := 3, pos := "bytes.go:37", after := #[{ on := 4, ground := Ground.data }, { on := 3, ground := Ground.chain }], guard := Option.none }) rfl (fun K hK => ?_) (AllReadyH.cons (o := { dst := Option.some 6, op := Op.alloc 30, type := 0, pos := "bytes.go:34", after := #[], guard := Option.none }) rfl (fun K hK => ?_) AllReadyH.nil)
        rotate_left
        focus
          refine step_op' rfl ?_
          go_simp
          have hq := heap_alloc_new u2 (.cells #[.int .i64 0, .int .i64 0, .int .i64 0, .int .i64 0, .int .i64 0, .int .i64 0, .int .i64 0, .int .i64 0, .bool false, .int .i64 0, .slice none 0 0, .slice none 0 0] 30)
          have hsb := below_alloc u2 (.cells #[.int .i64 0, .int .i64 0, .int .i64 0, .int .i64 0, .int .i64 0, .int .i64 0, .int .i64 0, .int .i64 0, .bool false, .int .i64 0, .slice none 0 0, .slice none 0 0] 30)
          have hd := HD.out.more hsb
          have hgl := HD.out.lt
          refine hK.out _ _ hd.cel (fun hHeld2 => ?_)
          clear hK K hHeld
          have hHeld := hHeld2
          clear hHeld2
          try simp only [Act.put, List.setIfInBounds_toArray, List.set_cons_zero, List.set_cons_succ]
          obtain ⟨u57, hVN⟩ : ∃ W, W = u2.alloc (.cells #[.int .i64 0, .int .i64 0, .int .i64 0, .int .i64 0, .int .i64 0, .int .i64 0, .int .i64 0, .int .i64 0, .bool false, .int .i64 0, .slice none 0 0, .slice none 0 0] 30) := ⟨_, rfl⟩
          obtain ⟨gm, hgm⟩ : ∃ g, g = u2.heap.size := ⟨_, rfl⟩
          rw [← hVN] at hq hsb hd hHeld ⊢
          rw [← hgm] at hq hgl ⊢
          have EQ := Lib.hid (And.intro (show N12 u57 gm (.int .i64 0) (.int .i64 0) (.int .i64 0) (.int .i64 0) (.int .i64 0) (.int .i64 0) (.int .i64 0) (.int .i64 0) (.bool false) (.int .i64 0) (.slice none 0 0) (.slice none 0 0) from hq) hgl)
          have EQ0 := Lib.hid (obj_lt hq)
          have HD := Lib.hid hd
          clear hq hsb hd hgl hVN hgm
          refine wpAnyH_ready (rs := [5]) (by kernel_rfl) (by simp) ?_
          refine AllReadyH.cons (o := { dst := Option.some 17, op := Op.call { callee := Callee.value (Operand.tmp 16), args := #[], argTypes := #[] }, type := 3, pos := "bytes.go:37", after := #[{ on := 4, ground := Ground.data }, { on := 3, ground := Ground.chain }], guard := Option.none }) rfl (fun K hK => ?_) AllReadyH.nil
          refine step_fun rfl _ _ _ rfl 25 _ rfl #[.pointer (some ⟨gr, 0, none⟩)] rfl e25 (C3.out p gr _ _ (HS.out _ HD.out.bel) HD.out.cell HD.out.rd) ?_
          rintro y u58 ⟨v', rfl, hr, hg⟩
          refine ⟨_, rfl, ?_⟩
          have hd := DK.read HD.out hr hg
          refine hK.out _ _ hd.cel (fun hHeld2 => ?_)
          clear hK K hHeld
          have hHeld := hHeld2
          clear hHeld2
          try simp only [Act.put, List.setIfInBounds_toArray, List.set_cons_zero, List.set_cons_succ]
          have EQ := Lib.hid (And.intro (EQ.out.1.to (hg.block gm EQ.out.1.lt (by intro e; injection e with e; have := EQ.out.2; have := HD.out.hgr; omega))) EQ.out.2)
          have HD := Lib.hid hd
          clear hd hr hg
          refine wpAnyH_ready (rs := [7]) (by kernel_rfl) (by simp) ?_
          refine AllReadyH.cons (o := { dst := Option.some 19, op := Op.call { callee := Callee.value (Operand.tmp 18), args := #[], argTypes := #[] }, type := 3, pos := "bytes.go:38", after := #[{ on := 6, ground := Ground.data }, { on := 5, ground := Ground.chain }], guard := Option.none }) rfl (fun K hK => ?_) AllReadyH.nil
          refine step_fun rfl _ _ _ rfl 25 _ rfl #[.pointer (some ⟨gr, 0, none⟩)] rfl e25 (C4.out p gr _ _ (HS.out _ HD.out.bel) HD.out.cell HD.out.rd) ?_
          rintro y u59 ⟨v', rfl, hr, hg⟩
          refine ⟨_, rfl, ?_⟩
          have hd := DK.read HD.out hr hg
          refine hK.out _ _ hd.cel (fun hHeld2 => ?_)
          clear hK K hHeld
          have hHeld := hHeld2
          clear hHeld2
          try simp only [Act.put, List.setIfInBounds_toArray, List.set_cons_zero, List.set_cons_succ]
          have EQ := Lib.hid (And.intro (EQ.out.1.to (hg.block gm EQ.out.1.lt (by intro e; injection e with e; have := EQ.out.2; have := HD.out.hgr; omega))) EQ.out.2)
          have HD := Lib.hid hd
          clear hd hr hg
          refine wpAnyH_ready (rs := [9]) (by kernel_rfl) (by simp) ?_
          refine AllReadyH.cons (o := { dst := Option.some 21, op := Op.call { callee := Callee.value (Operand.tmp 20), args := #[], argTypes := #[] }, type := 3, pos := "bytes.go:39", after := #[{ on := 8, ground := Ground.data }, { on := 7, ground := Ground.chain }], guard := Option.none }) rfl (fun K hK => ?_) AllReadyH.nil
          refine step_fun rfl _ _ _ rfl 25 _ rfl #[.pointer (some ⟨gr, 0, none⟩)] rfl e25 (C5.out p gr _ _ (HS.out _ HD.out.bel) HD.out.cell HD.out.rd) ?_
          rintro y u60 ⟨v', rfl, hr, hg⟩
          refine ⟨_, rfl, ?_⟩
          have hd := DK.read HD.out hr hg
          refine hK.out _ _ hd.cel (fun hHeld2 => ?_)
          clear hK K hHeld
          have hHeld := hHeld2
          clear hHeld2
          try simp only [Act.put, List.setIfInBounds_toArray, List.set_cons_zero, List.set_cons_succ]
          have EQ := Lib.hid (And.intro (EQ.out.1.to (hg.block gm EQ.out.1.lt (by intro e; injection e with e; have := EQ.out.2; have := HD.out.hgr; omega))) EQ.out.2)
          have HD := Lib.hid hd
          clear hd hr hg
          refine wpAnyH_ready (rs := [11]) (by kernel_rfl) (by simp) ?_
          refine AllReadyH.cons (o := { dst := Option.some 23, op := Op.call { callee := Callee.value (Operand.tmp 22), args := #[], argTypes := #[] }, type := 3, pos := "bytes.go:40", after := #[{ on := 10, ground := Ground.data }, { on := 9, ground := Ground.chain }], guard := Option.none }) rfl (fun K hK => ?_) AllReadyH.nil
          refine step_fun rfl _ _ _ rfl 25 _ rfl #[.pointer (some ⟨gr, 0, none⟩)] rfl e25 (C6.out p gr _ _ (HS.out _ HD.out.bel) HD.out.cell HD.out.rd) ?_
          rintro y u61 ⟨v', rfl, hr, hg⟩
          refine ⟨_, rfl, ?_⟩
          have hd := DK.read HD.out hr hg
          refine hK.out _ _ hd.cel (fun hHeld2 => ?_)
          clear hK K hHeld
          have hHeld := hHeld2
          clear hHeld2
          try simp only [Act.put, List.setIfInBounds_toArray, List.set_cons_zero, List.set_cons_succ]
          have EQ := Lib.hid (And.intro (EQ.out.1.to (hg.block gm EQ.out.1.lt (by intro e; injection e with e; have := EQ.out.2; have := HD.out.hgr; omega))) EQ.out.2)
          have HD := Lib.hid hd
          clear hd hr hg
          refine wpAnyH_ready (rs := [13]) (by kernel_rfl) (by simp) ?_
          refine AllReadyH.cons (o := { dst := Option.some 25, op := Op.call { callee := Callee.value (Operand.tmp 24), args := #[], argTypes := #[] }, type := 3, pos := "bytes.go:41", after := #[{ on := 12, ground := Ground.data }, { on := 11, ground := Ground.chain }], guard := Option.none }) rfl (fun K hK => ?_) AllReadyH.nil
          refine step_fun rfl _ _ _ rfl 25 _ rfl #[.pointer (some ⟨gr, 0, none⟩)] rfl e25 (C7.out p gr _ _ (HS.out _ HD.out.bel) HD.out.cell HD.out.rd) ?_
          rintro y u62 ⟨v', rfl, hr, hg⟩
          refine ⟨_, rfl, ?_⟩
          have hd := DK.read HD.out hr hg
          refine hK.out _ _ hd.cel (fun hHeld2 => ?_)
          clear hK K hHeld
          have hHeld := hHeld2
          clear hHeld2
          try simp only [Act.put, List.setIfInBounds_toArray, List.set_cons_zero, List.set_cons_succ]
          have EQ := Lib.hid (And.intro (EQ.out.1.to (hg.block gm EQ.out.1.lt (by intro e; injection e with e; have := EQ.out.2; have := HD.out.hgr; omega))) EQ.out.2)
          have HD := Lib.hid hd
          clear hd hr hg
          refine wpAnyH_ready (rs := [15]) (by kernel_rfl) (by simp) ?_
          refine AllReadyH.cons (o := { dst := Option.some 27, op := Op.call { callee := Callee.value (Operand.tmp 26), args := #[], argTypes := #[] }, type := 3, pos := "bytes.go:42", after := #[{ on := 14, ground := Ground.data }, { on := 13, ground := Ground.chain }], guard := Option.none }) rfl (fun K hK => ?_) AllReadyH.nil
          refine step_fun rfl _ _ _ rfl 25 _ rfl #[.pointer (some ⟨gr, 0, none⟩)] rfl e25 (C8.out p gr _ _ (HS.out _ HD.out.bel) HD.out.cell HD.out.rd) ?_
          rintro y u63 ⟨v', rfl, hr, hg⟩
          refine ⟨_, rfl, ?_⟩
          have hd := DK.read HD.out hr hg
          refine hK.out _ _ hd.cel (fun hHeld2 => ?_)
          clear hK K hHeld
          have hHeld := hHeld2
          clear hHeld2
          try simp only [Act.put, List.setIfInBounds_toArray, List.set_cons_zero, List.set_cons_succ]
          have EQ := Lib.hid (And.intro (EQ.out.1.to (hg.block gm EQ.out.1.lt (by intro e; injection e with e; have := EQ.out.2; have := HD.out.hgr; omega))) EQ.out.2)
          have HD := Lib.hid hd
          clear hd hr hg
          refine wpAnyH_ready (rs := [17]) (by kernel_rfl) (by simp) ?_
          refine AllReadyH.cons (o := { dst := Option.some 29, op := Op.call { callee := Callee.value (Operand.func 27), args := #[Operand.tmp 28], argTypes := #[49] }, type := 4, pos := "bytes.go:43", after := #[{ on := 16, ground := Ground.data }, { on := 15, ground := Ground.chain }], guard := Option.none }) rfl (fun K hK => ?_) AllReadyH.nil
          refine step_fun rfl _ _ _ rfl 27 _ rfl #[.pointer (some ⟨p, 0, none⟩)] rfl e27 (C9.out p _ _ HD.out.rd) ?_
          rintro y u64 ⟨v', rfl, hr, hg⟩
          refine ⟨_, rfl, ?_⟩
          have hd := DK.read HD.out hr hg
          refine hK.out _ _ hd.cel (fun hHeld2 => ?_)
          clear hK K hHeld
          have hHeld := hHeld2
          clear hHeld2
          try simp only [Act.put, List.setIfInBounds_toArray, List.set_cons_zero, List.set_cons_succ]
          have EQ := Lib.hid (And.intro (EQ.out.1.to (hg.block gm EQ.out.1.lt (by intro e; injection e with e; have := EQ.out.2; have := HD.out.hgr; omega))) EQ.out.2)
          have HD := Lib.hid hd
          clear hd hr hg
          refine wpAnyH_ready (rs := [19]) (by kernel_rfl) (by simp) ?_
          refine AllReadyH.cons (o := { dst := Option.some 31, op := Op.call { callee := Callee.value (Operand.tmp 30), args := #[], argTypes := #[] }, type := 3, pos := "bytes.go:44", after := #[{ on := 18, ground := Ground.data }, { on := 17, ground := Ground.chain }], guard := Option.none }) rfl (fun K hK => ?_) AllReadyH.nil
          refine step_fun rfl _ _ _ rfl 25 _ rfl #[.pointer (some ⟨gr, 0, none⟩)] rfl e25 (C10.out p gr _ _ (HS.out _ HD.out.bel) HD.out.cell HD.out.rd) ?_
          rintro y u65 ⟨v', rfl, hr, hg⟩
          refine ⟨_, rfl, ?_⟩
          have hd := DK.read HD.out hr hg
          refine hK.out _ _ hd.cel (fun hHeld2 => ?_)
          clear hK K hHeld
          have hHeld := hHeld2
          clear hHeld2
          try simp only [Act.put, List.setIfInBounds_toArray, List.set_cons_zero, List.set_cons_succ]
          have EQ := Lib.hid (And.intro (EQ.out.1.to (hg.block gm EQ.out.1.lt (by intro e; injection e with e; have := EQ.out.2; have := HD.out.hgr; omega))) EQ.out.2)
          have HD := Lib.hid hd
          clear hd hr hg
          have EQ0 := Lib.hid EQ.out.1.lt
          refine wpAnyH_ready (rs := [21]) (by kernel_rfl) (by simp) ?_
          refine AllReadyH.cons (o := { dst := Option.some 33, op := Op.call { callee := Callee.value (Operand.func 28), args := #[Operand.tmp 32, Operand.const (Value.int IntKind.i64 4096)], argTypes := #[49, 3] }, type := 22, pos := "bytes.go:45", after := #[{ on := 20, ground := Ground.data }, { on := 19, ground := Ground.chain }], guard := Option.none }) rfl (fun K hK => ?_) AllReadyH.nil
          refine step_fun rfl _ _ _ rfl 28 _ rfl #[.pointer (some ⟨p, 0, none⟩), .int .i64 4096] rfl e28 (C11.out p _ _ (HS.out _ HD.out.bel) HD.out.rd) ?_
          rintro y WF ⟨v', Ad, cd, rfl, hx, hr, hg⟩
          refine ⟨_, rfl, ?_⟩
          have hd := DK.read HD.out hr hg
          refine hK.out _ _ hd.cel (fun hHeld2 => ?_)
          clear hK K hHeld
          have hHeld := hHeld2
          clear hHeld2
          try simp only [Act.put, List.setIfInBounds_toArray, List.set_cons_zero, List.set_cons_succ]
          have EQ := Lib.hid (And.intro (EQ.out.1.to (hg.block gm EQ.out.1.lt (by intro e; injection e with e; have := EQ.out.2; have := HD.out.hgr; omega))) EQ.out.2)
          have XD := Lib.hid (hx.mono (T' := Tq W0 p gm WF) fun q hq => ⟨Nat.le_trans HD.out.bel.size hq.1, hq.2, by have := hq.1; have := HD.out.rd.lt; omega, by have := hq.1; have := EQ0.out; omega⟩)
          clear hx
          have HD := Lib.hid hd
          clear hd hr hg
          refine wpAnyH_take (i := 22) (oi := { dst := Option.some 34, op := Op.build 30 #[(0, Operand.tmp 13), (1, Operand.tmp 15), (2, Operand.tmp 17), (3, Operand.tmp 19), (4, Operand.tmp 21), (5, Operand.tmp 23), (6, Operand.tmp 25), (7, Operand.tmp 27), (8, Operand.tmp 29), (9, Operand.tmp 31), (10, Operand.tmp 33)], type := 30, pos := "bytes.go:34", after := #[{ on := 1, ground := Ground.data }, { on := 3, ground := Ground.data }, { on := 5, ground := Ground.data }, { on := 7, ground := Ground.data }, { on := 9, ground := Ground.data }, { on := 11, ground := Ground.data }, { on := 13, ground := Ground.data }, { on := 15, ground := Ground.data }, { on := 17, ground := Ground.data }, { on := 19, ground := Ground.data }, { on := 21, ground := Ground.data }], guard := Option.none }) (v := .agg #[.int .i64 (v1 : Int), .int .i64 (v2 : Int), .int .i64 (v3 : Int), .int .i64 (v4 : Int), .int .i64 (v5 : Int), .int .i64 (v6 : Int), .int .i64 (v7 : Int), .int .i64 (v8 : Int), .bool v9, .int .i64 (v10 : Int), .slice Ad n11 cd, .slice none 0 0]) rfl (by kernel_rfl) (by kernel_rfl) (by kernel_rfl) (fun _ _ _ h => h) (Or.inl ⟨by rfl, ?_⟩) hHeld ?_
          · intro W hSw
            go_simp
          simp only [Act.put, List.setIfInBounds_toArray, List.set_cons_zero, List.set_cons_succ]
        rotate_left
        focus
          refine step_fun rfl _ _ _ rfl 25 _ rfl #[.pointer (some ⟨gr, 0, none⟩)] rfl e25 (C3.out p gr _ _ (HS.out _ HD.out.bel) HD.out.cell HD.out.rd) ?_
          rintro y u3 ⟨v', rfl, hr, hg⟩
          refine ⟨_, rfl, ?_⟩
          have hd := DK.read HD.out hr hg
          refine hK.out _ _ hd.cel (fun hHeld2 => ?_)
          clear hK K hHeld
          have hHeld := hHeld2
          clear hHeld2
          try simp only [Act.put, List.setIfInBounds_toArray, List.set_cons_zero, List.set_cons_succ]
          have HD := Lib.hid hd
          clear hd hr hg
          refine wpAnyH_ready (rs := [7, 23]) (by kernel_rfl) (by simp) ?_
          refine AllReadyH.cons (o := { dst := Option.some 19, op := Op.call { callee := Callee.value (Operand.tmp 18), args := #[], argTypes := #[] }, type := 3, pos := "bytes.go:38", after := #[{ on := 6, ground := Ground.data }, { on := 5, ground := Ground.chain }], guard := Option.none }) rfl (fun K hK => ?_) (AllReadyH.cons (o := { dst := Option.some 6, op := Op.alloc 30, type := 0, pos := "bytes.go:34", after := #[], guard := Option.none }) rfl (fun K hK => ?_) AllReadyH.nil)
          rotate_left
          focus
            refine step_op' rfl ?_
            go_simp
            have hq := heap_alloc_new u3 (.cells #[.int .i64 0, .int .i64 0, .int .i64 0, .int .i64 0, .int .i64 0, .int .i64 0, .int .i64 0, .int .i64 0, .bool false, .int .i64 0, .slice none 0 0, .slice none 0 0] 30)
            have hsb := below_alloc u3 (.cells #[.int .i64 0, .int .i64 0, .int .i64 0, .int .i64 0, .int .i64 0, .int .i64 0, .int .i64 0, .int .i64 0, .bool false, .int .i64 0, .slice none 0 0, .slice none 0 0] 30)
            have hd := HD.out.more hsb
            have hgl := HD.out.lt
            refine hK.out _ _ hd.cel (fun hHeld2 => ?_)
            clear hK K hHeld
            have hHeld := hHeld2
            clear hHeld2
            try simp only [Act.put, List.setIfInBounds_toArray, List.set_cons_zero, List.set_cons_succ]
            obtain ⟨u48, hVN⟩ : ∃ W, W = u3.alloc (.cells #[.int .i64 0, .int .i64 0, .int .i64 0, .int .i64 0, .int .i64 0, .int .i64 0, .int .i64 0, .int .i64 0, .bool false, .int .i64 0, .slice none 0 0, .slice none 0 0] 30) := ⟨_, rfl⟩
            obtain ⟨gm, hgm⟩ : ∃ g, g = u3.heap.size := ⟨_, rfl⟩
            rw [← hVN] at hq hsb hd hHeld ⊢
            rw [← hgm] at hq hgl ⊢
            have EQ := Lib.hid (And.intro (show N12 u48 gm (.int .i64 0) (.int .i64 0) (.int .i64 0) (.int .i64 0) (.int .i64 0) (.int .i64 0) (.int .i64 0) (.int .i64 0) (.bool false) (.int .i64 0) (.slice none 0 0) (.slice none 0 0) from hq) hgl)
            have EQ0 := Lib.hid (obj_lt hq)
            have HD := Lib.hid hd
            clear hq hsb hd hgl hVN hgm
            refine wpAnyH_ready (rs := [7]) (by kernel_rfl) (by simp) ?_
            refine AllReadyH.cons (o := { dst := Option.some 19, op := Op.call { callee := Callee.value (Operand.tmp 18), args := #[], argTypes := #[] }, type := 3, pos := "bytes.go:38", after := #[{ on := 6, ground := Ground.data }, { on := 5, ground := Ground.chain }], guard := Option.none }) rfl (fun K hK => ?_) AllReadyH.nil
            refine step_fun rfl _ _ _ rfl 25 _ rfl #[.pointer (some ⟨gr, 0, none⟩)] rfl e25 (C4.out p gr _ _ (HS.out _ HD.out.bel) HD.out.cell HD.out.rd) ?_
            rintro y u49 ⟨v', rfl, hr, hg⟩
            refine ⟨_, rfl, ?_⟩
            have hd := DK.read HD.out hr hg
            refine hK.out _ _ hd.cel (fun hHeld2 => ?_)
            clear hK K hHeld
            have hHeld := hHeld2
            clear hHeld2
            try simp only [Act.put, List.setIfInBounds_toArray, List.set_cons_zero, List.set_cons_succ]
            have EQ := Lib.hid (And.intro (EQ.out.1.to (hg.block gm EQ.out.1.lt (by intro e; injection e with e; have := EQ.out.2; have := HD.out.hgr; omega))) EQ.out.2)
            have HD := Lib.hid hd
            clear hd hr hg
            refine wpAnyH_ready (rs := [9]) (by kernel_rfl) (by simp) ?_
            refine AllReadyH.cons (o := { dst := Option.some 21, op := Op.call { callee := Callee.value (Operand.tmp 20), args := #[], argTypes := #[] }, type := 3, pos := "bytes.go:39", after := #[{ on := 8, ground := Ground.data }, { on := 7, ground := Ground.chain }], guard := Option.none }) rfl (fun K hK => ?_) AllReadyH.nil
            refine step_fun rfl _ _ _ rfl 25 _ rfl #[.pointer (some ⟨gr, 0, none⟩)] rfl e25 (C5.out p gr _ _ (HS.out _ HD.out.bel) HD.out.cell HD.out.rd) ?_
            rintro y u50 ⟨v', rfl, hr, hg⟩
            refine ⟨_, rfl, ?_⟩
            have hd := DK.read HD.out hr hg
            refine hK.out _ _ hd.cel (fun hHeld2 => ?_)
            clear hK K hHeld
            have hHeld := hHeld2
            clear hHeld2
            try simp only [Act.put, List.setIfInBounds_toArray, List.set_cons_zero, List.set_cons_succ]
            have EQ := Lib.hid (And.intro (EQ.out.1.to (hg.block gm EQ.out.1.lt (by intro e; injection e with e; have := EQ.out.2; have := HD.out.hgr; omega))) EQ.out.2)
            have HD := Lib.hid hd
            clear hd hr hg
            refine wpAnyH_ready (rs := [11]) (by kernel_rfl) (by simp) ?_
            refine AllReadyH.cons (o := { dst := Option.some 23, op := Op.call { callee := Callee.value (Operand.tmp 22), args := #[], argTypes := #[] }, type := 3, pos := "bytes.go:40", after := #[{ on := 10, ground := Ground.data }, { on := 9, ground := Ground.chain }], guard := Option.none }) rfl (fun K hK => ?_) AllReadyH.nil
            refine step_fun rfl _ _ _ rfl 25 _ rfl #[.pointer (some ⟨gr, 0, none⟩)] rfl e25 (C6.out p gr _ _ (HS.out _ HD.out.bel) HD.out.cell HD.out.rd) ?_
            rintro y u51 ⟨v', rfl, hr, hg⟩
            refine ⟨_, rfl, ?_⟩
            have hd := DK.read HD.out hr hg
            refine hK.out _ _ hd.cel (fun hHeld2 => ?_)
            clear hK K hHeld
            have hHeld := hHeld2
            clear hHeld2
            try simp only [Act.put, List.setIfInBounds_toArray, List.set_cons_zero, List.set_cons_succ]
            have EQ := Lib.hid (And.intro (EQ.out.1.to (hg.block gm EQ.out.1.lt (by intro e; injection e with e; have := EQ.out.2; have := HD.out.hgr; omega))) EQ.out.2)
            have HD := Lib.hid hd
            clear hd hr hg
            refine wpAnyH_ready (rs := [13]) (by kernel_rfl) (by simp) ?_
            refine AllReadyH.cons (o := { dst := Option.some 25, op := Op.call { callee := Callee.value (Operand.tmp 24), args := #[], argTypes := #[] }, type := 3, pos := "bytes.go:41", after := #[{ on := 12, ground := Ground.data }, { on := 11, ground := Ground.chain }], guard := Option.none }) rfl (fun K hK => ?_) AllReadyH.nil
            refine step_fun rfl _ _ _ rfl 25 _ rfl #[.pointer (some ⟨gr, 0, none⟩)] rfl e25 (C7.out p gr _ _ (HS.out _ HD.out.bel) HD.out.cell HD.out.rd) ?_
            rintro y u52 ⟨v', rfl, hr, hg⟩
            refine ⟨_, rfl, ?_⟩
            have hd := DK.read HD.out hr hg
            refine hK.out _ _ hd.cel (fun hHeld2 => ?_)
            clear hK K hHeld
            have hHeld := hHeld2
            clear hHeld2
            try simp only [Act.put, List.setIfInBounds_toArray, List.set_cons_zero, List.set_cons_succ]
            have EQ := Lib.hid (And.intro (EQ.out.1.to (hg.block gm EQ.out.1.lt (by intro e; injection e with e; have := EQ.out.2; have := HD.out.hgr; omega))) EQ.out.2)
            have HD := Lib.hid hd
            clear hd hr hg
            refine wpAnyH_ready (rs := [15]) (by kernel_rfl) (by simp) ?_
            refine AllReadyH.cons (o := { dst := Option.some 27, op := Op.call { callee := Callee.value (Operand.tmp 26), args := #[], argTypes := #[] }, type := 3, pos := "bytes.go:42", after := #[{ on := 14, ground := Ground.data }, { on := 13, ground := Ground.chain }], guard := Option.none }) rfl (fun K hK => ?_) AllReadyH.nil
            refine step_fun rfl _ _ _ rfl 25 _ rfl #[.pointer (some ⟨gr, 0, none⟩)] rfl e25 (C8.out p gr _ _ (HS.out _ HD.out.bel) HD.out.cell HD.out.rd) ?_
            rintro y u53 ⟨v', rfl, hr, hg⟩
            refine ⟨_, rfl, ?_⟩
            have hd := DK.read HD.out hr hg
            refine hK.out _ _ hd.cel (fun hHeld2 => ?_)
            clear hK K hHeld
            have hHeld := hHeld2
            clear hHeld2
            try simp only [Act.put, List.setIfInBounds_toArray, List.set_cons_zero, List.set_cons_succ]
            have EQ := Lib.hid (And.intro (EQ.out.1.to (hg.block gm EQ.out.1.lt (by intro e; injection e with e; have := EQ.out.2; have := HD.out.hgr; omega))) EQ.out.2)
            have HD := Lib.hid hd
            clear hd hr hg
            refine wpAnyH_ready (rs := [17]) (by kernel_rfl) (by simp) ?_
            refine AllReadyH.cons (o := { dst := Option.some 29, op := Op.call { callee := Callee.value (Operand.func 27), args := #[Operand.tmp 28], argTypes := #[49] }, type := 4, pos := "bytes.go:43", after := #[{ on := 16, ground := Ground.data }, { on := 15, ground := Ground.chain }], guard := Option.none }) rfl (fun K hK => ?_) AllReadyH.nil
            refine step_fun rfl _ _ _ rfl 27 _ rfl #[.pointer (some ⟨p, 0, none⟩)] rfl e27 (C9.out p _ _ HD.out.rd) ?_
            rintro y u54 ⟨v', rfl, hr, hg⟩
            refine ⟨_, rfl, ?_⟩
            have hd := DK.read HD.out hr hg
            refine hK.out _ _ hd.cel (fun hHeld2 => ?_)
            clear hK K hHeld
            have hHeld := hHeld2
            clear hHeld2
            try simp only [Act.put, List.setIfInBounds_toArray, List.set_cons_zero, List.set_cons_succ]
            have EQ := Lib.hid (And.intro (EQ.out.1.to (hg.block gm EQ.out.1.lt (by intro e; injection e with e; have := EQ.out.2; have := HD.out.hgr; omega))) EQ.out.2)
            have HD := Lib.hid hd
            clear hd hr hg
            refine wpAnyH_ready (rs := [19]) (by kernel_rfl) (by simp) ?_
            refine AllReadyH.cons (o := { dst := Option.some 31, op := Op.call { callee := Callee.value (Operand.tmp 30), args := #[], argTypes := #[] }, type := 3, pos := "bytes.go:44", after := #[{ on := 18, ground := Ground.data }, { on := 17, ground := Ground.chain }], guard := Option.none }) rfl (fun K hK => ?_) AllReadyH.nil
            refine step_fun rfl _ _ _ rfl 25 _ rfl #[.pointer (some ⟨gr, 0, none⟩)] rfl e25 (C10.out p gr _ _ (HS.out _ HD.out.bel) HD.out.cell HD.out.rd) ?_
            rintro y u55 ⟨v', rfl, hr, hg⟩
            refine ⟨_, rfl, ?_⟩
            have hd := DK.read HD.out hr hg
            refine hK.out _ _ hd.cel (fun hHeld2 => ?_)
            clear hK K hHeld
            have hHeld := hHeld2
            clear hHeld2
            try simp only [Act.put, List.setIfInBounds_toArray, List.set_cons_zero, List.set_cons_succ]
            have EQ := Lib.hid (And.intro (EQ.out.1.to (hg.block gm EQ.out.1.lt (by intro e; injection e with e; have := EQ.out.2; have := HD.out.hgr; omega))) EQ.out.2)
            have HD := Lib.hid hd
            clear hd hr hg
            have EQ0 := Lib.hid EQ.out.1.lt
            refine wpAnyH_ready (rs := [21]) (by kernel_rfl) (by simp) ?_
            refine AllReadyH.cons (o := { dst := Option.some 33, op := Op.call { callee := Callee.value (Operand.func 28), args := #[Operand.tmp 32, Operand.const (Value.int IntKind.i64 4096)], argTypes := #[49, 3] }, type := 22, pos := "bytes.go:45", after := #[{ on := 20, ground := Ground.data }, { on := 19, ground := Ground.chain }], guard := Option.none }) rfl (fun K hK => ?_) AllReadyH.nil
            refine step_fun rfl _ _ _ rfl 28 _ rfl #[.pointer (some ⟨p, 0, none⟩), .int .i64 4096] rfl e28 (C11.out p _ _ (HS.out _ HD.out.bel) HD.out.rd) ?_
            rintro y WF ⟨v', Ad, cd, rfl, hx, hr, hg⟩
            refine ⟨_, rfl, ?_⟩
            have hd := DK.read HD.out hr hg
            refine hK.out _ _ hd.cel (fun hHeld2 => ?_)
            clear hK K hHeld
            have hHeld := hHeld2
            clear hHeld2
            try simp only [Act.put, List.setIfInBounds_toArray, List.set_cons_zero, List.set_cons_succ]
            have EQ := Lib.hid (And.intro (EQ.out.1.to (hg.block gm EQ.out.1.lt (by intro e; injection e with e; have := EQ.out.2; have := HD.out.hgr; omega))) EQ.out.2)
            have XD := Lib.hid (hx.mono (T' := Tq W0 p gm WF) fun q hq => ⟨Nat.le_trans HD.out.bel.size hq.1, hq.2, by have := hq.1; have := HD.out.rd.lt; omega, by have := hq.1; have := EQ0.out; omega⟩)
            clear hx
            have HD := Lib.hid hd
            clear hd hr hg
            refine wpAnyH_take (i := 22) (oi := { dst := Option.some 34, op := Op.build 30 #[(0, Operand.tmp 13), (1, Operand.tmp 15), (2, Operand.tmp 17), (3, Operand.tmp 19), (4, Operand.tmp 21), (5, Operand.tmp 23), (6, Operand.tmp 25), (7, Operand.tmp 27), (8, Operand.tmp 29), (9, Operand.tmp 31), (10, Operand.tmp 33)], type := 30, pos := "bytes.go:34", after := #[{ on := 1, ground := Ground.data }, { on := 3, ground := Ground.data }, { on := 5, ground := Ground.data }, { on := 7, ground := Ground.data }, { on := 9, ground := Ground.data }, { on := 11, ground := Ground.data }, { on := 13, ground := Ground.data }, { on := 15, ground := Ground.data }, { on := 17, ground := Ground.data }, { on := 19, ground := Ground.data }, { on := 21, ground := Ground.data }], guard := Option.none }) (v := .agg #[.int .i64 (v1 : Int), .int .i64 (v2 : Int), .int .i64 (v3 : Int), .int .i64 (v4 : Int), .int .i64 (v5 : Int), .int .i64 (v6 : Int), .int .i64 (v7 : Int), .int .i64 (v8 : Int), .bool v9, .int .i64 (v10 : Int), .slice Ad n11 cd, .slice none 0 0]) rfl (by kernel_rfl) (by kernel_rfl) (by kernel_rfl) (fun _ _ _ h => h) (Or.inl ⟨by rfl, ?_⟩) hHeld ?_
            · intro W hSw
              go_simp
            simp only [Act.put, List.setIfInBounds_toArray, List.set_cons_zero, List.set_cons_succ]
          rotate_left
          focus
            refine step_fun rfl _ _ _ rfl 25 _ rfl #[.pointer (some ⟨gr, 0, none⟩)] rfl e25 (C4.out p gr _ _ (HS.out _ HD.out.bel) HD.out.cell HD.out.rd) ?_
            rintro y u4 ⟨v', rfl, hr, hg⟩
            refine ⟨_, rfl, ?_⟩
            have hd := DK.read HD.out hr hg
            refine hK.out _ _ hd.cel (fun hHeld2 => ?_)
            clear hK K hHeld
            have hHeld := hHeld2
            clear hHeld2
            try simp only [Act.put, List.setIfInBounds_toArray, List.set_cons_zero, List.set_cons_succ]
            have HD := Lib.hid hd
            clear hd hr hg
            refine wpAnyH_ready (rs := [9, 23]) (by kernel_rfl) (by simp) ?_
            refine AllReadyH.cons (o := { dst := Option.some 21, op := Op.call { callee := Callee.value (Operand.tmp 20), args := #[], argTypes := #[] }, type := 3, pos := "bytes.go:39", after := #[{ on := 8, ground := Ground.data }, { on := 7, ground := Ground.chain }], guard := Option.none }) rfl (fun K hK => ?_) (AllReadyH.cons (o := { dst := Option.some 6, op := Op.alloc 30, type := 0, pos := "bytes.go:34", after := #[], guard := Option.none }) rfl (fun K hK => ?_) AllReadyH.nil)
            rotate_left
            focus
              refine step_op' rfl ?_
              go_simp
              have hq := heap_alloc_new u4 (.cells #[.int .i64 0, .int .i64 0, .int .i64 0, .int .i64 0, .int .i64 0, .int .i64 0, .int .i64 0, .int .i64 0, .bool false, .int .i64 0, .slice none 0 0, .slice none 0 0] 30)
              have hsb := below_alloc u4 (.cells #[.int .i64 0, .int .i64 0, .int .i64 0, .int .i64 0, .int .i64 0, .int .i64 0, .int .i64 0, .int .i64 0, .bool false, .int .i64 0, .slice none 0 0, .slice none 0 0] 30)
              have hd := HD.out.more hsb
              have hgl := HD.out.lt
              refine hK.out _ _ hd.cel (fun hHeld2 => ?_)
              clear hK K hHeld
              have hHeld := hHeld2
              clear hHeld2
              try simp only [Act.put, List.setIfInBounds_toArray, List.set_cons_zero, List.set_cons_succ]
              obtain ⟨u40, hVN⟩ : ∃ W, W = u4.alloc (.cells #[.int .i64 0, .int .i64 0, .int .i64 0, .int .i64 0, .int .i64 0, .int .i64 0, .int .i64 0, .int .i64 0, .bool false, .int .i64 0, .slice none 0 0, .slice none 0 0] 30) := ⟨_, rfl⟩
              obtain ⟨gm, hgm⟩ : ∃ g, g = u4.heap.size := ⟨_, rfl⟩
              rw [← hVN] at hq hsb hd hHeld ⊢
              rw [← hgm] at hq hgl ⊢
              have EQ := Lib.hid (And.intro (show N12 u40 gm (.int .i64 0) (.int .i64 0) (.int .i64 0) (.int .i64 0) (.int .i64 0) (.int .i64 0) (.int .i64 0) (.int .i64 0) (.bool false) (.int .i64 0) (.slice none 0 0) (.slice none 0 0) from hq) hgl)
              have EQ0 := Lib.hid (obj_lt hq)
              have HD := Lib.hid hd
              clear hq hsb hd hgl hVN hgm
              refine wpAnyH_ready (rs := [9]) (by kernel_rfl) (by simp) ?_
              refine AllReadyH.cons (o := { dst := Option.some 21, op := Op.call { callee := Callee.value (Operand.tmp 20), args := #[], argTypes := #[] }, type := 3, pos := "bytes.go:39", after := #[{ on := 8, ground := Ground.data }, { on := 7, ground := Ground.chain }], guard := Option.none }) rfl (fun K hK => ?_) AllReadyH.nil
              refine step_fun rfl _ _ _ rfl 25 _ rfl #[.pointer (some ⟨gr, 0, none⟩)] rfl e25 (C5.out p gr _ _ (HS.out _ HD.out.bel) HD.out.cell HD.out.rd) ?_
              rintro y u41 ⟨v', rfl, hr, hg⟩
              refine ⟨_, rfl, ?_⟩
              have hd := DK.read HD.out hr hg
              refine hK.out _ _ hd.cel (fun hHeld2 => ?_)
              clear hK K hHeld
              have hHeld := hHeld2
              clear hHeld2
              try simp only [Act.put, List.setIfInBounds_toArray, List.set_cons_zero, List.set_cons_succ]
              have EQ := Lib.hid (And.intro (EQ.out.1.to (hg.block gm EQ.out.1.lt (by intro e; injection e with e; have := EQ.out.2; have := HD.out.hgr; omega))) EQ.out.2)
              have HD := Lib.hid hd
              clear hd hr hg
              refine wpAnyH_ready (rs := [11]) (by kernel_rfl) (by simp) ?_
              refine AllReadyH.cons (o := { dst := Option.some 23, op := Op.call { callee := Callee.value (Operand.tmp 22), args := #[], argTypes := #[] }, type := 3, pos := "bytes.go:40", after := #[{ on := 10, ground := Ground.data }, { on := 9, ground := Ground.chain }], guard := Option.none }) rfl (fun K hK => ?_) AllReadyH.nil
              refine step_fun rfl _ _ _ rfl 25 _ rfl #[.pointer (some ⟨gr, 0, none⟩)] rfl e25 (C6.out p gr _ _ (HS.out _ HD.out.bel) HD.out.cell HD.out.rd) ?_
              rintro y u42 ⟨v', rfl, hr, hg⟩
              refine ⟨_, rfl, ?_⟩
              have hd := DK.read HD.out hr hg
              refine hK.out _ _ hd.cel (fun hHeld2 => ?_)
              clear hK K hHeld
              have hHeld := hHeld2
              clear hHeld2
              try simp only [Act.put, List.setIfInBounds_toArray, List.set_cons_zero, List.set_cons_succ]
              have EQ := Lib.hid (And.intro (EQ.out.1.to (hg.block gm EQ.out.1.lt (by intro e; injection e with e; have := EQ.out.2; have := HD.out.hgr; omega))) EQ.out.2)
              have HD := Lib.hid hd
              clear hd hr hg
              refine wpAnyH_ready (rs := [13]) (by kernel_rfl) (by simp) ?_
              refine AllReadyH.cons (o := { dst := Option.some 25, op := Op.call { callee := Callee.value (Operand.tmp 24), args := #[], argTypes := #[] }, type := 3, pos := "bytes.go:41", after := #[{ on := 12, ground := Ground.data }, { on := 11, ground := Ground.chain }], guard := Option.none }) rfl (fun K hK => ?_) AllReadyH.nil
              refine step_fun rfl _ _ _ rfl 25 _ rfl #[.pointer (some ⟨gr, 0, none⟩)] rfl e25 (C7.out p gr _ _ (HS.out _ HD.out.bel) HD.out.cell HD.out.rd) ?_
              rintro y u43 ⟨v', rfl, hr, hg⟩
              refine ⟨_, rfl, ?_⟩
              have hd := DK.read HD.out hr hg
              refine hK.out _ _ hd.cel (fun hHeld2 => ?_)
              clear hK K hHeld
              have hHeld := hHeld2
              clear hHeld2
              try simp only [Act.put, List.setIfInBounds_toArray, List.set_cons_zero, List.set_cons_succ]
              have EQ := Lib.hid (And.intro (EQ.out.1.to (hg.block gm EQ.out.1.lt (by intro e; injection e with e; have := EQ.out.2; have := HD.out.hgr; omega))) EQ.out.2)
              have HD := Lib.hid hd
              clear hd hr hg
              refine wpAnyH_ready (rs := [15]) (by kernel_rfl) (by simp) ?_
              refine AllReadyH.cons (o := { dst := Option.some 27, op := Op.call { callee := Callee.value (Operand.tmp 26), args := #[], argTypes := #[] }, type := 3, pos := "bytes.go:42", after := #[{ on := 14, ground := Ground.data }, { on := 13, ground := Ground.chain }], guard := Option.none }) rfl (fun K hK => ?_) AllReadyH.nil
              refine step_fun rfl _ _ _ rfl 25 _ rfl #[.pointer (some ⟨gr, 0, none⟩)] rfl e25 (C8.out p gr _ _ (HS.out _ HD.out.bel) HD.out.cell HD.out.rd) ?_
              rintro y u44 ⟨v', rfl, hr, hg⟩
              refine ⟨_, rfl, ?_⟩
              have hd := DK.read HD.out hr hg
              refine hK.out _ _ hd.cel (fun hHeld2 => ?_)
              clear hK K hHeld
              have hHeld := hHeld2
              clear hHeld2
              try simp only [Act.put, List.setIfInBounds_toArray, List.set_cons_zero, List.set_cons_succ]
              have EQ := Lib.hid (And.intro (EQ.out.1.to (hg.block gm EQ.out.1.lt (by intro e; injection e with e; have := EQ.out.2; have := HD.out.hgr; omega))) EQ.out.2)
              have HD := Lib.hid hd
              clear hd hr hg
              refine wpAnyH_ready (rs := [17]) (by kernel_rfl) (by simp) ?_
              refine AllReadyH.cons (o := { dst := Option.some 29, op := Op.call { callee := Callee.value (Operand.func 27), args := #[Operand.tmp 28], argTypes := #[49] }, type := 4, pos := "bytes.go:43", after := #[{ on := 16, ground := Ground.data }, { on := 15, ground := Ground.chain }], guard := Option.none }) rfl (fun K hK => ?_) AllReadyH.nil
              refine step_fun rfl _ _ _ rfl 27 _ rfl #[.pointer (some ⟨p, 0, none⟩)] rfl e27 (C9.out p _ _ HD.out.rd) ?_
              rintro y u45 ⟨v', rfl, hr, hg⟩
              refine ⟨_, rfl, ?_⟩
              have hd := DK.read HD.out hr hg
              refine hK.out _ _ hd.cel (fun hHeld2 => ?_)
              clear hK K hHeld
              have hHeld := hHeld2
              clear hHeld2
              try simp only [Act.put, List.setIfInBounds_toArray, List.set_cons_zero, List.set_cons_succ]
              have EQ := Lib.hid (And.intro (EQ.out.1.to (hg.block gm EQ.out.1.lt (by intro e; injection e with e; have := EQ.out.2; have := HD.out.hgr; omega))) EQ.out.2)
              have HD := Lib.hid hd
              clear hd hr hg
              refine wpAnyH_ready (rs := [19]) (by kernel_rfl) (by simp) ?_
              refine AllReadyH.cons (o := { dst := Option.some 31, op := Op.call { callee := Callee.value (Operand.tmp 30), args := #[], argTypes := #[] }, type := 3, pos := "bytes.go:44", after := #[{ on := 18, ground := Ground.data }, { on := 17, ground := Ground.chain }], guard := Option.none }) rfl (fun K hK => ?_) AllReadyH.nil
              refine step_fun rfl _ _ _ rfl 25 _ rfl #[.pointer (some ⟨gr, 0, none⟩)] rfl e25 (C10.out p gr _ _ (HS.out _ HD.out.bel) HD.out.cell HD.out.rd) ?_
              rintro y u46 ⟨v', rfl, hr, hg⟩
              refine ⟨_, rfl, ?_⟩
              have hd := DK.read HD.out hr hg
              refine hK.out _ _ hd.cel (fun hHeld2 => ?_)
              clear hK K hHeld
              have hHeld := hHeld2
              clear hHeld2
              try simp only [Act.put, List.setIfInBounds_toArray, List.set_cons_zero, List.set_cons_succ]
              have EQ := Lib.hid (And.intro (EQ.out.1.to (hg.block gm EQ.out.1.lt (by intro e; injection e with e; have := EQ.out.2; have := HD.out.hgr; omega))) EQ.out.2)
              have HD := Lib.hid hd
              clear hd hr hg
              have EQ0 := Lib.hid EQ.out.1.lt
              refine wpAnyH_ready (rs := [21]) (by kernel_rfl) (by simp) ?_
              refine AllReadyH.cons (o := { dst := Option.some 33, op := Op.call { callee := Callee.value (Operand.func 28), args := #[Operand.tmp 32, Operand.const (Value.int IntKind.i64 4096)], argTypes := #[49, 3] }, type := 22, pos := "bytes.go:45", after := #[{ on := 20, ground := Ground.data }, { on := 19, ground := Ground.chain }], guard := Option.none }) rfl (fun K hK => ?_) AllReadyH.nil
              refine step_fun rfl _ _ _ rfl 28 _ rfl #[.pointer (some ⟨p, 0, none⟩), .int .i64 4096] rfl e28 (C11.out p _ _ (HS.out _ HD.out.bel) HD.out.rd) ?_
              rintro y WF ⟨v', Ad, cd, rfl, hx, hr, hg⟩
              refine ⟨_, rfl, ?_⟩
              have hd := DK.read HD.out hr hg
              refine hK.out _ _ hd.cel (fun hHeld2 => ?_)
              clear hK K hHeld
              have hHeld := hHeld2
              clear hHeld2
              try simp only [Act.put, List.setIfInBounds_toArray, List.set_cons_zero, List.set_cons_succ]
              have EQ := Lib.hid (And.intro (EQ.out.1.to (hg.block gm EQ.out.1.lt (by intro e; injection e with e; have := EQ.out.2; have := HD.out.hgr; omega))) EQ.out.2)
              have XD := Lib.hid (hx.mono (T' := Tq W0 p gm WF) fun q hq => ⟨Nat.le_trans HD.out.bel.size hq.1, hq.2, by have := hq.1; have := HD.out.rd.lt; omega, by have := hq.1; have := EQ0.out; omega⟩)
              clear hx
              have HD := Lib.hid hd
              clear hd hr hg
              refine wpAnyH_take (i := 22) (oi := { dst := Option.some 34, op := Op.build 30 #[(0, Operand.tmp 13), (1, Operand.tmp 15), (2, Operand.tmp 17), (3, Operand.tmp 19), (4, Operand.tmp 21), (5, Operand.tmp 23), (6, Operand.tmp 25), (7, Operand.tmp 27), (8, Operand.tmp 29), (9, Operand.tmp 31), (10, Operand.tmp 33)], type := 30, pos := "bytes.go:34", after := #[{ on := 1, ground := Ground.data }, { on := 3, ground := Ground.data }, { on := 5, ground := Ground.data }, { on := 7, ground := Ground.data }, { on := 9, ground := Ground.data }, { on := 11, ground := Ground.data }, { on := 13, ground := Ground.data }, { on := 15, ground := Ground.data }, { on := 17, ground := Ground.data }, { on := 19, ground := Ground.data }, { on := 21, ground := Ground.data }], guard := Option.none }) (v := .agg #[.int .i64 (v1 : Int), .int .i64 (v2 : Int), .int .i64 (v3 : Int), .int .i64 (v4 : Int), .int .i64 (v5 : Int), .int .i64 (v6 : Int), .int .i64 (v7 : Int), .int .i64 (v8 : Int), .bool v9, .int .i64 (v10 : Int), .slice Ad n11 cd, .slice none 0 0]) rfl (by kernel_rfl) (by kernel_rfl) (by kernel_rfl) (fun _ _ _ h => h) (Or.inl ⟨by rfl, ?_⟩) hHeld ?_
              · intro W hSw
                go_simp
              simp only [Act.put, List.setIfInBounds_toArray, List.set_cons_zero, List.set_cons_succ]
            rotate_left
            focus
              refine step_fun rfl _ _ _ rfl 25 _ rfl #[.pointer (some ⟨gr, 0, none⟩)] rfl e25 (C5.out p gr _ _ (HS.out _ HD.out.bel) HD.out.cell HD.out.rd) ?_
              rintro y u5 ⟨v', rfl, hr, hg⟩
              refine ⟨_, rfl, ?_⟩
              have hd := DK.read HD.out hr hg
              refine hK.out _ _ hd.cel (fun hHeld2 => ?_)
              clear hK K hHeld
              have hHeld := hHeld2
              clear hHeld2
              try simp only [Act.put, List.setIfInBounds_toArray, List.set_cons_zero, List.set_cons_succ]
              have HD := Lib.hid hd
              clear hd hr hg
              refine wpAnyH_ready (rs := [11, 23]) (by kernel_rfl) (by simp) ?_
              refine AllReadyH.cons (o := { dst := Option.some 23, op := Op.call { callee := Callee.value (Operand.tmp 22), args := #[], argTypes := #[] }, type := 3, pos := "bytes.go:40", after := #[{ on := 10, ground := Ground.data }, { on := 9, ground := Ground.chain }], guard := Option.none }) rfl (fun K hK => ?_) (AllReadyH.cons (o := { dst := Option.some 6, op := Op.alloc 30, type := 0, pos := "bytes.go:34", after := #[], guard := Option.none }) rfl (fun K hK => ?_) AllReadyH.nil)
              rotate_left
              focus
                refine step_op' rfl ?_
                go_simp
                have hq := heap_alloc_new u5 (.cells #[.int .i64 0, .int .i64 0, .int .i64 0, .int .i64 0, .int .i64 0, .int .i64 0, .int .i64 0, .int .i64 0, .bool false, .int .i64 0, .slice none 0 0, .slice none 0 0] 30)
                have hsb := below_alloc u5 (.cells #[.int .i64 0, .int .i64 0, .int .i64 0, .int .i64 0, .int .i64 0, .int .i64 0, .int .i64 0, .int .i64 0, .bool false, .int .i64 0, .slice none 0 0, .slice none 0 0] 30)
                have hd := HD.out.more hsb
                have hgl := HD.out.lt
                refine hK.out _ _ hd.cel (fun hHeld2 => ?_)
                clear hK K hHeld
                have hHeld := hHeld2
                clear hHeld2
                try simp only [Act.put, List.setIfInBounds_toArray, List.set_cons_zero, List.set_cons_succ]
                obtain ⟨u33, hVN⟩ : ∃ W, W = u5.alloc (.cells #[.int .i64 0, .int .i64 0, .int .i64 0, .int .i64 0, .int .i64 0, .int .i64 0, .int .i64 0, .int .i64 0, .bool false, .int .i64 0, .slice none 0 0, .slice none 0 0] 30) := ⟨_, rfl⟩
                obtain ⟨gm, hgm⟩ : ∃ g, g = u5.heap.size := ⟨_, rfl⟩
                rw [← hVN] at hq hsb hd hHeld ⊢
                rw [← hgm] at hq hgl ⊢
                have EQ := Lib.hid (And.intro (show N12 u33 gm (.int .i64 0) (.int .i64 0) (.int .i64 0) (.int .i64 0) (.int .i64 0) (.int .i64 0) (.int .i64 0) (.int .i64 0) (.bool false) (.int .i64 0) (.slice none 0 0) (.slice none 0 0) from hq) hgl)
                have EQ0 := Lib.hid (obj_lt hq)
                have HD := Lib.hid hd
                clear hq hsb hd hgl hVN hgm
                refine wpAnyH_ready (rs := [11]) (by kernel_rfl) (by simp) ?_
                refine AllReadyH.cons (o := { dst := Option.some 23, op := Op.call { callee := Callee.value (Operand.tmp 22), args := #[], argTypes := #[] }, type := 3, pos := "bytes.go:40", after := #[{ on := 10, ground := Ground.data }, { on := 9, ground := Ground.chain }], guard := Option.none }) rfl (fun K hK => ?_) AllReadyH.nil
                refine step_fun rfl _ _ _ rfl 25 _ rfl #[.pointer (some ⟨gr, 0, none⟩)] rfl e25 (C6.out p gr _ _ (HS.out _ HD.out.bel) HD.out.cell HD.out.rd) ?_
                rintro y u34 ⟨v', rfl, hr, hg⟩
                refine ⟨_, rfl, ?_⟩
                have hd := DK.read HD.out hr hg
                refine hK.out _ _ hd.cel (fun hHeld2 => ?_)
                clear hK K hHeld
                have hHeld := hHeld2
                clear hHeld2
                try simp only [Act.put, List.setIfInBounds_toArray, List.set_cons_zero, List.set_cons_succ]
                have EQ := Lib.hid (And.intro (EQ.out.1.to (hg.block gm EQ.out.1.lt (by intro e; injection e with e; have := EQ.out.2; have := HD.out.hgr; omega))) EQ.out.2)
                have HD := Lib.hid hd
                clear hd hr hg
                refine wpAnyH_ready (rs := [13]) (by kernel_rfl) (by simp) ?_
                refine AllReadyH.cons (o := { dst := Option.some 25, op := Op.call { callee := Callee.value (Operand.tmp 24), args := #[], argTypes := #[] }, type := 3, pos := "bytes.go:41", after := #[{ on := 12, ground := Ground.data }, { on := 11, ground := Ground.chain }], guard := Option.none }) rfl (fun K hK => ?_) AllReadyH.nil
                refine step_fun rfl _ _ _ rfl 25 _ rfl #[.pointer (some ⟨gr, 0, none⟩)] rfl e25 (C7.out p gr _ _ (HS.out _ HD.out.bel) HD.out.cell HD.out.rd) ?_
                rintro y u35 ⟨v', rfl, hr, hg⟩
                refine ⟨_, rfl, ?_⟩
                have hd := DK.read HD.out hr hg
                refine hK.out _ _ hd.cel (fun hHeld2 => ?_)
                clear hK K hHeld
                have hHeld := hHeld2
                clear hHeld2
                try simp only [Act.put, List.setIfInBounds_toArray, List.set_cons_zero, List.set_cons_succ]
                have EQ := Lib.hid (And.intro (EQ.out.1.to (hg.block gm EQ.out.1.lt (by intro e; injection e with e; have := EQ.out.2; have := HD.out.hgr; omega))) EQ.out.2)
                have HD := Lib.hid hd
                clear hd hr hg
                refine wpAnyH_ready (rs := [15]) (by kernel_rfl) (by simp) ?_
                refine AllReadyH.cons (o := { dst := Option.some 27, op := Op.call { callee := Callee.value (Operand.tmp 26), args := #[], argTypes := #[] }, type := 3, pos := "bytes.go:42", after := #[{ on := 14, ground := Ground.data }, { on := 13, ground := Ground.chain }], guard := Option.none }) rfl (fun K hK => ?_) AllReadyH.nil
                refine step_fun rfl _ _ _ rfl 25 _ rfl #[.pointer (some ⟨gr, 0, none⟩)] rfl e25 (C8.out p gr _ _ (HS.out _ HD.out.bel) HD.out.cell HD.out.rd) ?_
                rintro y u36 ⟨v', rfl, hr, hg⟩
                refine ⟨_, rfl, ?_⟩
                have hd := DK.read HD.out hr hg
                refine hK.out _ _ hd.cel (fun hHeld2 => ?_)
                clear hK K hHeld
                have hHeld := hHeld2
                clear hHeld2
                try simp only [Act.put, List.setIfInBounds_toArray, List.set_cons_zero, List.set_cons_succ]
                have EQ := Lib.hid (And.intro (EQ.out.1.to (hg.block gm EQ.out.1.lt (by intro e; injection e with e; have := EQ.out.2; have := HD.out.hgr; omega))) EQ.out.2)
                have HD := Lib.hid hd
                clear hd hr hg
                refine wpAnyH_ready (rs := [17]) (by kernel_rfl) (by simp) ?_
                refine AllReadyH.cons (o := { dst := Option.some 29, op := Op.call { callee := Callee.value (Operand.func 27), args := #[Operand.tmp 28], argTypes := #[49] }, type := 4, pos := "bytes.go:43", after := #[{ on := 16, ground := Ground.data }, { on := 15, ground := Ground.chain }], guard := Option.none }) rfl (fun K hK => ?_) AllReadyH.nil
                refine step_fun rfl _ _ _ rfl 27 _ rfl #[.pointer (some ⟨p, 0, none⟩)] rfl e27 (C9.out p _ _ HD.out.rd) ?_
                rintro y u37 ⟨v', rfl, hr, hg⟩
                refine ⟨_, rfl, ?_⟩
                have hd := DK.read HD.out hr hg
                refine hK.out _ _ hd.cel (fun hHeld2 => ?_)
                clear hK K hHeld
                have hHeld := hHeld2
                clear hHeld2
                try simp only [Act.put, List.setIfInBounds_toArray, List.set_cons_zero, List.set_cons_succ]
                have EQ := Lib.hid (And.intro (EQ.out.1.to (hg.block gm EQ.out.1.lt (by intro e; injection e with e; have := EQ.out.2; have := HD.out.hgr; omega))) EQ.out.2)
                have HD := Lib.hid hd
                clear hd hr hg
                refine wpAnyH_ready (rs := [19]) (by kernel_rfl) (by simp) ?_
                refine AllReadyH.cons (o := { dst := Option.some 31, op := Op.call { callee := Callee.value (Operand.tmp 30), args := #[], argTypes := #[] }, type := 3, pos := "bytes.go:44", after := #[{ on := 18, ground := Ground.data }, { on := 17, ground := Ground.chain }], guard := Option.none }) rfl (fun K hK => ?_) AllReadyH.nil
                refine step_fun rfl _ _ _ rfl 25 _ rfl #[.pointer (some ⟨gr, 0, none⟩)] rfl e25 (C10.out p gr _ _ (HS.out _ HD.out.bel) HD.out.cell HD.out.rd) ?_
                rintro y u38 ⟨v', rfl, hr, hg⟩
                refine ⟨_, rfl, ?_⟩
                have hd := DK.read HD.out hr hg
                refine hK.out _ _ hd.cel (fun hHeld2 => ?_)
                clear hK K hHeld
                have hHeld := hHeld2
                clear hHeld2
                try simp only [Act.put, List.setIfInBounds_toArray, List.set_cons_zero, List.set_cons_succ]
                have EQ := Lib.hid (And.intro (EQ.out.1.to (hg.block gm EQ.out.1.lt (by intro e; injection e with e; have := EQ.out.2; have := HD.out.hgr; omega))) EQ.out.2)
                have HD := Lib.hid hd
                clear hd hr hg
                have EQ0 := Lib.hid EQ.out.1.lt
                refine wpAnyH_ready (rs := [21]) (by kernel_rfl) (by simp) ?_
                refine AllReadyH.cons (o := { dst := Option.some 33, op := Op.call { callee := Callee.value (Operand.func 28), args := #[Operand.tmp 32, Operand.const (Value.int IntKind.i64 4096)], argTypes := #[49, 3] }, type := 22, pos := "bytes.go:45", after := #[{ on := 20, ground := Ground.data }, { on := 19, ground := Ground.chain }], guard := Option.none }) rfl (fun K hK => ?_) AllReadyH.nil
                refine step_fun rfl _ _ _ rfl 28 _ rfl #[.pointer (some ⟨p, 0, none⟩), .int .i64 4096] rfl e28 (C11.out p _ _ (HS.out _ HD.out.bel) HD.out.rd) ?_
                rintro y WF ⟨v', Ad, cd, rfl, hx, hr, hg⟩
                refine ⟨_, rfl, ?_⟩
                have hd := DK.read HD.out hr hg
                refine hK.out _ _ hd.cel (fun hHeld2 => ?_)
                clear hK K hHeld
                have hHeld := hHeld2
                clear hHeld2
                try simp only [Act.put, List.setIfInBounds_toArray, List.set_cons_zero, List.set_cons_succ]
                have EQ := Lib.hid (And.intro (EQ.out.1.to (hg.block gm EQ.out.1.lt (by intro e; injection e with e; have := EQ.out.2; have := HD.out.hgr; omega))) EQ.out.2)
                have XD := Lib.hid (hx.mono (T' := Tq W0 p gm WF) fun q hq => ⟨Nat.le_trans HD.out.bel.size hq.1, hq.2, by have := hq.1; have := HD.out.rd.lt; omega, by have := hq.1; have := EQ0.out; omega⟩)
                clear hx
                have HD := Lib.hid hd
                clear hd hr hg
                refine wpAnyH_take (i := 22) (oi := { dst := Option.some 34, op := Op.build 30 #[(0, Operand.tmp 13), (1, Operand.tmp 15), (2, Operand.tmp 17), (3, Operand.tmp 19), (4, Operand.tmp 21), (5, Operand.tmp 23), (6, Operand.tmp 25), (7, Operand.tmp 27), (8, Operand.tmp 29), (9, Operand.tmp 31), (10, Operand.tmp 33)], type := 30, pos := "bytes.go:34", after := #[{ on := 1, ground := Ground.data }, { on := 3, ground := Ground.data }, { on := 5, ground := Ground.data }, { on := 7, ground := Ground.data }, { on := 9, ground := Ground.data }, { on := 11, ground := Ground.data }, { on := 13, ground := Ground.data }, { on := 15, ground := Ground.data }, { on := 17, ground := Ground.data }, { on := 19, ground := Ground.data }, { on := 21, ground := Ground.data }], guard := Option.none }) (v := .agg #[.int .i64 (v1 : Int), .int .i64 (v2 : Int), .int .i64 (v3 : Int), .int .i64 (v4 : Int), .int .i64 (v5 : Int), .int .i64 (v6 : Int), .int .i64 (v7 : Int), .int .i64 (v8 : Int), .bool v9, .int .i64 (v10 : Int), .slice Ad n11 cd, .slice none 0 0]) rfl (by kernel_rfl) (by kernel_rfl) (by kernel_rfl) (fun _ _ _ h => h) (Or.inl ⟨by rfl, ?_⟩) hHeld ?_
                · intro W hSw
                  go_simp
                simp only [Act.put, List.setIfInBounds_toArray, List.set_cons_zero, List.set_cons_succ]
              rotate_left
              focus
                refine step_fun rfl _ _ _ rfl 25 _ rfl #[.pointer (some ⟨gr, 0, none⟩)] rfl e25 (C6.out p gr _ _ (HS.out _ HD.out.bel) HD.out.cell HD.out.rd) ?_
                rintro y u6 ⟨v', rfl, hr, hg⟩
                refine ⟨_, rfl, ?_⟩
                have hd := DK.read HD.out hr hg
                refine hK.out _ _ hd.cel (fun hHeld2 => ?_)
                clear hK K hHeld
                have hHeld := hHeld2
                clear hHeld2
                try simp only [Act.put, List.setIfInBounds_toArray, List.set_cons_zero, List.set_cons_succ]
                have HD := Lib.hid hd
                clear hd hr hg
                refine wpAnyH_ready (rs := [13, 23]) (by kernel_rfl) (by simp) ?_
                refine AllReadyH.cons (o := { dst := Option.some 25, op := Op.call { callee := Callee.value (Operand.tmp 24), args := #[], argTypes := #[] }, type := 3, pos := "bytes.go:41", after := #[{ on := 12, ground := Ground.data }, { on := 11, ground := Ground.chain }], guard := Option.none }) rfl (fun K hK => ?_) (AllReadyH.cons (o := { dst := Option.some 6, op := Op.alloc 30, type := 0, pos := "bytes.go:34", after := #[], guard := Option.none }) rfl (fun K hK => ?_) AllReadyH.nil)
                rotate_left
                focus
                  refine step_op' rfl ?_
                  go_simp
                  have hq := heap_alloc_new u6 (.cells #[.int .i64 0, .int .i64 0, .int .i64 0, .int .i64 0, .int .i64 0, .int .i64 0, .int .i64 0, .int .i64 0, .bool false, .int .i64 0, .slice none 0 0, .slice none 0 0] 30)
                  have hsb := below_alloc u6 (.cells #[.int .i64 0, .int .i64 0, .int .i64 0, .int .i64 0, .int .i64 0, .int .i64 0, .int .i64 0, .int .i64 0, .bool false, .int .i64 0, .slice none 0 0, .slice none 0 0] 30)
                  have hd := HD.out.more hsb
                  have hgl := HD.out.lt
                  refine hK.out _ _ hd.cel (fun hHeld2 => ?_)
                  clear hK K hHeld
                  have hHeld := hHeld2
                  clear hHeld2
                  try simp only [Act.put, List.setIfInBounds_toArray, List.set_cons_zero, List.set_cons_succ]
                  obtain ⟨u27, hVN⟩ : ∃ W, W = u6.alloc (.cells #[.int .i64 0, .int .i64 0, .int .i64 0, .int .i64 0, .int .i64 0, .int .i64 0, .int .i64 0, .int .i64 0, .bool false, .int .i64 0, .slice none 0 0, .slice none 0 0] 30) := ⟨_, rfl⟩
                  obtain ⟨gm, hgm⟩ : ∃ g, g = u6.heap.size := ⟨_, rfl⟩
                  rw [← hVN] at hq hsb hd hHeld ⊢
                  rw [← hgm] at hq hgl ⊢
                  have EQ := Lib.hid (And.intro (show N12 u27 gm (.int .i64 0) (.int .i64 0) (.int .i64 0) (.int .i64 0) (.int .i64 0) (.int .i64 0) (.int .i64 0) (.int .i64 0) (.bool false) (.int .i64 0) (.slice none 0 0) (.slice none 0 0) from hq) hgl)
                  have EQ0 := Lib.hid (obj_lt hq)
                  have HD := Lib.hid hd
                  clear hq hsb hd hgl hVN hgm
                  refine wpAnyH_ready (rs := [13]) (by kernel_rfl) (by simp) ?_
                  refine AllReadyH.cons (o := { dst := Option.some 25, op := Op.call { callee := Callee.value (Operand.tmp 24), args := #[], argTypes := #[] }, type := 3, pos := "bytes.go:41", after := #[{ on := 12, ground := Ground.data }, { on := 11, ground := Ground.chain }], guard := Option.none }) rfl (fun K hK => ?_) AllReadyH.nil
                  refine step_fun rfl _ _ _ rfl 25 _ rfl #[.pointer (some ⟨gr, 0, none⟩)] rfl e25 (C7.out p gr _ _ (HS.out _ HD.out.bel) HD.out.cell HD.out.rd) ?_
                  rintro y u28 ⟨v', rfl, hr, hg⟩
                  refine ⟨_, rfl, ?_⟩
                  have hd := DK.read HD.out hr hg
                  refine hK.out _ _ hd.cel (fun hHeld2 => ?_)
                  clear hK K hHeld
                  have hHeld := hHeld2
                  clear hHeld2
                  try simp only [Act.put, List.setIfInBounds_toArray, List.set_cons_zero, List.set_cons_succ]
                  have EQ := Lib.hid (And.intro (EQ.out.1.to (hg.block gm EQ.out.1.lt (by intro e; injection e with e; have := EQ.out.2; have := HD.out.hgr; omega))) EQ.out.2)
                  have HD := Lib.hid hd
                  clear hd hr hg
                  refine wpAnyH_ready (rs := [15]) (by kernel_rfl) (by simp) ?_
                  refine AllReadyH.cons (o := { dst := Option.some 27, op := Op.call { callee := Callee.value (Operand.tmp 26), args := #[], argTypes := #[] }, type := 3, pos := "bytes.go:42", after := #[{ on := 14, ground := Ground.data }, { on := 13, ground := Ground.chain }], guard := Option.none }) rfl (fun K hK => ?_) AllReadyH.nil
                  refine step_fun rfl _ _ _ rfl 25 _ rfl #[.pointer (some ⟨gr, 0, none⟩)] rfl e25 (C8.out p gr _ _ (HS.out _ HD.out.bel) HD.out.cell HD.out.rd) ?_
                  rintro y u29 ⟨v', rfl, hr, hg⟩
                  refine ⟨_, rfl, ?_⟩
                  have hd := DK.read HD.out hr hg
                  refine hK.out _ _ hd.cel (fun hHeld2 => ?_)
                  clear hK K hHeld
                  have hHeld := hHeld2
                  clear hHeld2
                  try simp only [Act.put, List.setIfInBounds_toArray, List.set_cons_zero, List.set_cons_succ]
                  have EQ := Lib.hid (And.intro (EQ.out.1.to (hg.block gm EQ.out.1.lt (by intro e; injection e with e; have := EQ.out.2; have := HD.out.hgr; omega))) EQ.out.2)
                  have HD := Lib.hid hd
                  clear hd hr hg
                  refine wpAnyH_ready (rs := [17]) (by kernel_rfl) (by simp) ?_
                  refine AllReadyH.cons (o := { dst := Option.some 29, op := Op.call { callee := Callee.value (Operand.func 27), args := #[Operand.tmp 28], argTypes := #[49] }, type := 4, pos := "bytes.go:43", after := #[{ on := 16, ground := Ground.data }, { on := 15, ground := Ground.chain }], guard := Option.none }) rfl (fun K hK => ?_) AllReadyH.nil
                  refine step_fun rfl _ _ _ rfl 27 _ rfl #[.pointer (some ⟨p, 0, none⟩)] rfl e27 (C9.out p _ _ HD.out.rd) ?_
                  rintro y u30 ⟨v', rfl, hr, hg⟩
                  refine ⟨_, rfl, ?_⟩
                  have hd := DK.read HD.out hr hg
                  refine hK.out _ _ hd.cel (fun hHeld2 => ?_)
                  clear hK K hHeld
                  have hHeld := hHeld2
                  clear hHeld2
                  try simp only [Act.put, List.setIfInBounds_toArray, List.set_cons_zero, List.set_cons_succ]
                  have EQ := Lib.hid (And.intro (EQ.out.1.to (hg.block gm EQ.out.1.lt (by intro e; injection e with e; have := EQ.out.2; have := HD.out.hgr; omega))) EQ.out.2)
                  have HD := Lib.hid hd
                  clear hd hr hg
                  refine wpAnyH_ready (rs := [19]) (by kernel_rfl) (by simp) ?_
                  refine AllReadyH.cons (o := { dst := Option.some 31, op := Op.call { callee := Callee.value (Operand.tmp 30), args := #[], argTypes := #[] }, type := 3, pos := "bytes.go:44", after := #[{ on := 18, ground := Ground.data }, { on := 17, ground := Ground.chain }], guard := Option.none }) rfl (fun K hK => ?_) AllReadyH.nil
                  refine step_fun rfl _ _ _ rfl 25 _ rfl #[.pointer (some ⟨gr, 0, none⟩)] rfl e25 (C10.out p gr _ _ (HS.out _ HD.out.bel) HD.out.cell HD.out.rd) ?_
                  rintro y u31 ⟨v', rfl, hr, hg⟩
                  refine ⟨_, rfl, ?_⟩
                  have hd := DK.read HD.out hr hg
                  refine hK.out _ _ hd.cel (fun hHeld2 => ?_)
                  clear hK K hHeld
                  have hHeld := hHeld2
                  clear hHeld2
                  try simp only [Act.put, List.setIfInBounds_toArray, List.set_cons_zero, List.set_cons_succ]
                  have EQ := Lib.hid (And.intro (EQ.out.1.to (hg.block gm EQ.out.1.lt (by intro e; injection e with e; have := EQ.out.2; have := HD.out.hgr; omega))) EQ.out.2)
                  have HD := Lib.hid hd
                  clear hd hr hg
                  have EQ0 := Lib.hid EQ.out.1.lt
                  refine wpAnyH_ready (rs := [21]) (by kernel_rfl) (by simp) ?_
                  refine AllReadyH.cons (o := { dst := Option.some 33, op := Op.call { callee := Callee.value (Operand.func 28), args := #[Operand.tmp 32, Operand.const (Value.int IntKind.i64 4096)], argTypes := #[49, 3] }, type := 22, pos := "bytes.go:45", after := #[{ on := 20, ground := Ground.data }, { on := 19, ground := Ground.chain }], guard := Option.none }) rfl (fun K hK => ?_) AllReadyH.nil
                  refine step_fun rfl _ _ _ rfl 28 _ rfl #[.pointer (some ⟨p, 0, none⟩), .int .i64 4096] rfl e28 (C11.out p _ _ (HS.out _ HD.out.bel) HD.out.rd) ?_
                  rintro y WF ⟨v', Ad, cd, rfl, hx, hr, hg⟩
                  refine ⟨_, rfl, ?_⟩
                  have hd := DK.read HD.out hr hg
                  refine hK.out _ _ hd.cel (fun hHeld2 => ?_)
                  clear hK K hHeld
                  have hHeld := hHeld2
                  clear hHeld2
                  try simp only [Act.put, List.setIfInBounds_toArray, List.set_cons_zero, List.set_cons_succ]
                  have EQ := Lib.hid (And.intro (EQ.out.1.to (hg.block gm EQ.out.1.lt (by intro e; injection e with e; have := EQ.out.2; have := HD.out.hgr; omega))) EQ.out.2)
                  have XD := Lib.hid (hx.mono (T' := Tq W0 p gm WF) fun q hq => ⟨Nat.le_trans HD.out.bel.size hq.1, hq.2, by have := hq.1; have := HD.out.rd.lt; omega, by have := hq.1; have := EQ0.out; omega⟩)
                  clear hx
                  have HD := Lib.hid hd
                  clear hd hr hg
                  refine wpAnyH_take (i := 22) (oi := { dst := Option.some 34, op := Op.build 30 #[(0, Operand.tmp 13), (1, Operand.tmp 15), (2, Operand.tmp 17), (3, Operand.tmp 19), (4, Operand.tmp 21), (5, Operand.tmp 23), (6, Operand.tmp 25), (7, Operand.tmp 27), (8, Operand.tmp 29), (9, Operand.tmp 31), (10, Operand.tmp 33)], type := 30, pos := "bytes.go:34", after := #[{ on := 1, ground := Ground.data }, { on := 3, ground := Ground.data }, { on := 5, ground := Ground.data }, { on := 7, ground := Ground.data }, { on := 9, ground := Ground.data }, { on := 11, ground := Ground.data }, { on := 13, ground := Ground.data }, { on := 15, ground := Ground.data }, { on := 17, ground := Ground.data }, { on := 19, ground := Ground.data }, { on := 21, ground := Ground.data }], guard := Option.none }) (v := .agg #[.int .i64 (v1 : Int), .int .i64 (v2 : Int), .int .i64 (v3 : Int), .int .i64 (v4 : Int), .int .i64 (v5 : Int), .int .i64 (v6 : Int), .int .i64 (v7 : Int), .int .i64 (v8 : Int), .bool v9, .int .i64 (v10 : Int), .slice Ad n11 cd, .slice none 0 0]) rfl (by kernel_rfl) (by kernel_rfl) (by kernel_rfl) (fun _ _ _ h => h) (Or.inl ⟨by rfl, ?_⟩) hHeld ?_
                  · intro W hSw
                    go_simp
                  simp only [Act.put, List.setIfInBounds_toArray, List.set_cons_zero, List.set_cons_succ]
                rotate_left
                focus
                  refine step_fun rfl _ _ _ rfl 25 _ rfl #[.pointer (some ⟨gr, 0, none⟩)] rfl e25 (C7.out p gr _ _ (HS.out _ HD.out.bel) HD.out.cell HD.out.rd) ?_
                  rintro y u7 ⟨v', rfl, hr, hg⟩
                  refine ⟨_, rfl, ?_⟩
                  have hd := DK.read HD.out hr hg
                  refine hK.out _ _ hd.cel (fun hHeld2 => ?_)
                  clear hK K hHeld
                  have hHeld := hHeld2
                  clear hHeld2
                  try simp only [Act.put, List.setIfInBounds_toArray, List.set_cons_zero, List.set_cons_succ]
                  have HD := Lib.hid hd
                  clear hd hr hg
                  refine wpAnyH_ready (rs := [15, 23]) (by kernel_rfl) (by simp) ?_
                  refine AllReadyH.cons (o := { dst := Option.some 27, op := Op.call { callee := Callee.value (Operand.tmp 26), args := #[], argTypes := #[] }, type := 3, pos := "bytes.go:42", after := #[{ on := 14, ground := Ground.data }, { on := 13, ground := Ground.chain }], guard := Option.none }) rfl (fun K hK => ?_) (AllReadyH.cons (o := { dst := Option.some 6, op := Op.alloc 30, type := 0, pos := "bytes.go:34", after := #[], guard := Option.none }) rfl (fun K hK => ?_) AllReadyH.nil)
                  rotate_left
                  focus
                    refine step_op' rfl ?_
                    go_simp
                    have hq := heap_alloc_new u7 (.cells #[.int .i64 0, .int .i64 0, .int .i64 0, .int .i64 0, .int .i64 0, .int .i64 0, .int .i64 0, .int .i64 0, .bool false, .int .i64 0, .slice none 0 0, .slice none 0 0] 30)
                    have hsb := below_alloc u7 (.cells #[.int .i64 0, .int .i64 0, .int .i64 0, .int .i64 0, .int .i64 0, .int .i64 0, .int .i64 0, .int .i64 0, .bool false, .int .i64 0, .slice none 0 0, .slice none 0 0] 30)
                    have hd := HD.out.more hsb
                    have hgl := HD.out.lt
                    refine hK.out _ _ hd.cel (fun hHeld2 => ?_)
                    clear hK K hHeld
                    have hHeld := hHeld2
                    clear hHeld2
                    try simp only [Act.put, List.setIfInBounds_toArray, List.set_cons_zero, List.set_cons_succ]
                    obtain ⟨u22, hVN⟩ : ∃ W, W = u7.alloc (.cells #[.int .i64 0, .int .i64 0, .int .i64 0, .int .i64 0, .int .i64 0, .int .i64 0, .int .i64 0, .int .i64 0, .bool false, .int .i64 0, .slice none 0 0, .slice none 0 0] 30) := ⟨_, rfl⟩
                    obtain ⟨gm, hgm⟩ : ∃ g, g = u7.heap.size := ⟨_, rfl⟩
                    rw [← hVN] at hq hsb hd hHeld ⊢
                    rw [← hgm] at hq hgl ⊢
                    have EQ := Lib.hid (And.intro (show N12 u22 gm (.int .i64 0) (.int .i64 0) (.int .i64 0) (.int .i64 0) (.int .i64 0) (.int .i64 0) (.int .i64 0) (.int .i64 0) (.bool false) (.int .i64 0) (.slice none 0 0) (.slice none 0 0) from hq) hgl)
                    have EQ0 := Lib.hid (obj_lt hq)
                    have HD := Lib.hid hd
                    clear hq hsb hd hgl hVN hgm
                    refine wpAnyH_ready (rs := [15]) (by kernel_rfl) (by simp) ?_
                    refine AllReadyH.cons (o := { dst := Option.some 27, op := Op.call { callee := Callee.value (Operand.tmp 26), args := #[], argTypes := #[] }, type := 3, pos := "bytes.go:42", after := #[{ on := 14, ground := Ground.data }, { on := 13, ground := Ground.chain }], guard := Option.none }) rfl (fun K hK => ?_) AllReadyH.nil
                    refine step_fun rfl _ _ _ rfl 25 _ rfl #[.pointer (some ⟨gr, 0, none⟩)] rfl e25 (C8.out p gr _ _ (HS.out _ HD.out.bel) HD.out.cell HD.out.rd) ?_
                    rintro y u23 ⟨v', rfl, hr, hg⟩
                    refine ⟨_, rfl, ?_⟩
                    have hd := DK.read HD.out hr hg
                    refine hK.out _ _ hd.cel (fun hHeld2 => ?_)
                    clear hK K hHeld
                    have hHeld := hHeld2
                    clear hHeld2
                    try simp only [Act.put, List.setIfInBounds_toArray, List.set_cons_zero, List.set_cons_succ]
                    have EQ := Lib.hid (And.intro (EQ.out.1.to (hg.block gm EQ.out.1.lt (by intro e; injection e with e; have := EQ.out.2; have := HD.out.hgr; omega))) EQ.out.2)
                    have HD := Lib.hid hd
                    clear hd hr hg
                    refine wpAnyH_ready (rs := [17]) (by kernel_rfl) (by simp) ?_
                    refine AllReadyH.cons (o := { dst := Option.some 29, op := Op.call { callee := Callee.value (Operand.func 27), args := #[Operand.tmp 28], argTypes := #[49] }, type := 4, pos := "bytes.go:43", after := #[{ on := 16, ground := Ground.data }, { on := 15, ground := Ground.chain }], guard := Option.none }) rfl (fun K hK => ?_) AllReadyH.nil
                    refine step_fun rfl _ _ _ rfl 27 _ rfl #[.pointer (some ⟨p, 0, none⟩)] rfl e27 (C9.out p _ _ HD.out.rd) ?_
                    rintro y u24 ⟨v', rfl, hr, hg⟩
                    refine ⟨_, rfl, ?_⟩
                    have hd := DK.read HD.out hr hg
                    refine hK.out _ _ hd.cel (fun hHeld2 => ?_)
                    clear hK K hHeld
                    have hHeld := hHeld2
                    clear hHeld2
                    try simp only [Act.put, List.setIfInBounds_toArray, List.set_cons_zero, List.set_cons_succ]
                    have EQ := Lib.hid (And.intro (EQ.out.1.to (hg.block gm EQ.out.1.lt (by intro e; injection e with e; have := EQ.out.2; have := HD.out.hgr; omega))) EQ.out.2)
                    have HD := Lib.hid hd
                    clear hd hr hg
                    refine wpAnyH_ready (rs := [19]) (by kernel_rfl) (by simp) ?_
                    refine AllReadyH.cons (o := { dst := Option.some 31, op := Op.call { callee := Callee.value (Operand.tmp 30), args := #[], argTypes := #[] }, type := 3, pos := "bytes.go:44", after := #[{ on := 18, ground := Ground.data }, { on := 17, ground := Ground.chain }], guard := Option.none }) rfl (fun K hK => ?_) AllReadyH.nil
                    refine step_fun rfl _ _ _ rfl 25 _ rfl #[.pointer (some ⟨gr, 0, none⟩)] rfl e25 (C10.out p gr _ _ (HS.out _ HD.out.bel) HD.out.cell HD.out.rd) ?_
                    rintro y u25 ⟨v', rfl, hr, hg⟩
                    refine ⟨_, rfl, ?_⟩
                    have hd := DK.read HD.out hr hg
                    refine hK.out _ _ hd.cel (fun hHeld2 => ?_)
                    clear hK K hHeld
                    have hHeld := hHeld2
                    clear hHeld2
                    try simp only [Act.put, List.setIfInBounds_toArray, List.set_cons_zero, List.set_cons_succ]
                    have EQ := Lib.hid (And.intro (EQ.out.1.to (hg.block gm EQ.out.1.lt (by intro e; injection e with e; have := EQ.out.2; have := HD.out.hgr; omega))) EQ.out.2)
                    have HD := Lib.hid hd
                    clear hd hr hg
                    have EQ0 := Lib.hid EQ.out.1.lt
                    refine wpAnyH_ready (rs := [21]) (by kernel_rfl) (by simp) ?_
                    refine AllReadyH.cons (o := { dst := Option.some 33, op := Op.call { callee := Callee.value (Operand.func 28), args := #[Operand.tmp 32, Operand.const (Value.int IntKind.i64 4096)], argTypes := #[49, 3] }, type := 22, pos := "bytes.go:45", after := #[{ on := 20, ground := Ground.data }, { on := 19, ground := Ground.chain }], guard := Option.none }) rfl (fun K hK => ?_) AllReadyH.nil
                    refine step_fun rfl _ _ _ rfl 28 _ rfl #[.pointer (some ⟨p, 0, none⟩), .int .i64 4096] rfl e28 (C11.out p _ _ (HS.out _ HD.out.bel) HD.out.rd) ?_
                    rintro y WF ⟨v', Ad, cd, rfl, hx, hr, hg⟩
                    refine ⟨_, rfl, ?_⟩
                    have hd := DK.read HD.out hr hg
                    refine hK.out _ _ hd.cel (fun hHeld2 => ?_)
                    clear hK K hHeld
                    have hHeld := hHeld2
                    clear hHeld2
                    try simp only [Act.put, List.setIfInBounds_toArray, List.set_cons_zero, List.set_cons_succ]
                    have EQ := Lib.hid (And.intro (EQ.out.1.to (hg.block gm EQ.out.1.lt (by intro e; injection e with e; have := EQ.out.2; have := HD.out.hgr; omega))) EQ.out.2)
                    have XD := Lib.hid (hx.mono (T' := Tq W0 p gm WF) fun q hq => ⟨Nat.le_trans HD.out.bel.size hq.1, hq.2, by have := hq.1; have := HD.out.rd.lt; omega, by have := hq.1; have := EQ0.out; omega⟩)
                    clear hx
                    have HD := Lib.hid hd
                    clear hd hr hg
                    refine wpAnyH_take (i := 22) (oi := { dst := Option.some 34, op := Op.build 30 #[(0, Operand.tmp 13), (1, Operand.tmp 15), (2, Operand.tmp 17), (3, Operand.tmp 19), (4, Operand.tmp 21), (5, Operand.tmp 23), (6, Operand.tmp 25), (7, Operand.tmp 27), (8, Operand.tmp 29), (9, Operand.tmp 31), (10, Operand.tmp 33)], type := 30, pos := "bytes.go:34", after := #[{ on := 1, ground := Ground.data }, { on := 3, ground := Ground.data }, { on := 5, ground := Ground.data }, { on := 7, ground := Ground.data }, { on := 9, ground := Ground.data }, { on := 11, ground := Ground.data }, { on := 13, ground := Ground.data }, { on := 15, ground := Ground.data }, { on := 17, ground := Ground.data }, { on := 19, ground := Ground.data }, { on := 21, ground := Ground.data }], guard := Option.none }) (v := .agg #[.int .i64 (v1 : Int), .int .i64 (v2 : Int), .int .i64 (v3 : Int), .int .i64 (v4 : Int), .int .i64 (v5 : Int), .int .i64 (v6 : Int), .int .i64 (v7 : Int), .int .i64 (v8 : Int), .bool v9, .int .i64 (v10 : Int), .slice Ad n11 cd, .slice none 0 0]) rfl (by kernel_rfl) (by kernel_rfl) (by kernel_rfl) (fun _ _ _ h => h) (Or.inl ⟨by rfl, ?_⟩) hHeld ?_
                    · intro W hSw
                      go_simp
                    simp only [Act.put, List.setIfInBounds_toArray, List.set_cons_zero, List.set_cons_succ]
                  rotate_left
                  focus
                    refine step_fun rfl _ _ _ rfl 25 _ rfl #[.pointer (some ⟨gr, 0, none⟩)] rfl e25 (C8.out p gr _ _ (HS.out _ HD.out.bel) HD.out.cell HD.out.rd) ?_
                    rintro y u8 ⟨v', rfl, hr, hg⟩
                    refine ⟨_, rfl, ?_⟩
                    have hd := DK.read HD.out hr hg
                    refine hK.out _ _ hd.cel (fun hHeld2 => ?_)
                    clear hK K hHeld
                    have hHeld := hHeld2
                    clear hHeld2
                    try simp only [Act.put, List.setIfInBounds_toArray, List.set_cons_zero, List.set_cons_succ]
                    have HD := Lib.hid hd
                    clear hd hr hg
                    refine wpAnyH_ready (rs := [17, 23]) (by kernel_rfl) (by simp) ?_
                    refine AllReadyH.cons (o := { dst := Option.some 29, op := Op.call { callee := Callee.value (Operand.func 27), args := #[Operand.tmp 28], argTypes := #[49] }, type := 4, pos := "bytes.go:43", after := #[{ on := 16, ground := Ground.data }, { on := 15, ground := Ground.chain }], guard := Option.none }) rfl (fun K hK => ?_) (AllReadyH.cons (o := { dst := Option.some 6, op := Op.alloc 30, type := 0, pos := "bytes.go:34", after := #[], guard := Option.none }) rfl (fun K hK => ?_) AllReadyH.nil)
                    rotate_left
                    focus
                      refine step_op' rfl ?_
                      go_simp
                      have hq := heap_alloc_new u8 (.cells #[.int .i64 0, .int .i64 0, .int .i64 0, .int .i64 0, .int .i64 0, .int .i64 0, .int .i64 0, .int .i64 0, .bool false, .int .i64 0, .slice none 0 0, .slice none 0 0] 30)
                      have hsb := below_alloc u8 (.cells #[.int .i64 0, .int .i64 0, .int .i64 0, .int .i64 0, .int .i64 0, .int .i64 0, .int .i64 0, .int .i64 0, .bool false, .int .i64 0, .slice none 0 0, .slice none 0 0] 30)
                      have hd := HD.out.more hsb
                      have hgl := HD.out.lt
                      refine hK.out _ _ hd.cel (fun hHeld2 => ?_)
                      clear hK K hHeld
                      have hHeld := hHeld2
                      clear hHeld2
                      try simp only [Act.put, List.setIfInBounds_toArray, List.set_cons_zero, List.set_cons_succ]
                      obtain ⟨u18, hVN⟩ : ∃ W, W = u8.alloc (.cells #[.int .i64 0, .int .i64 0, .int .i64 0, .int .i64 0, .int .i64 0, .int .i64 0, .int .i64 0, .int .i64 0, .bool false, .int .i64 0, .slice none 0 0, .slice none 0 0] 30) := ⟨_, rfl⟩
                      obtain ⟨gm, hgm⟩ : ∃ g, g = u8.heap.size := ⟨_, rfl⟩
                      rw [← hVN] at hq hsb hd hHeld ⊢
                      rw [← hgm] at hq hgl ⊢
                      have EQ := Lib.hid (And.intro (show N12 u18 gm (.int .i64 0) (.int .i64 0) (.int .i64 0) (.int .i64 0) (.int .i64 0) (.int .i64 0) (.int .i64 0) (.int .i64 0) (.bool false) (.int .i64 0) (.slice none 0 0) (.slice none 0 0) from hq) hgl)
                      have EQ0 := Lib.hid (obj_lt hq)
                      have HD := Lib.hid hd
                      clear hq hsb hd hgl hVN hgm
                      refine wpAnyH_ready (rs := [17]) (by kernel_rfl) (by simp) ?_
                      refine AllReadyH.cons (o := { dst := Option.some 29, op := Op.call { callee := Callee.value (Operand.func 27), args := #[Operand.tmp 28], argTypes := #[49] }, type := 4, pos := "bytes.go:43", after := #[{ on := 16, ground := Ground.data }, { on := 15, ground := Ground.chain }], guard := Option.none }) rfl (fun K hK => ?_) AllReadyH.nil
                      refine step_fun rfl _ _ _ rfl 27 _ rfl #[.pointer (some ⟨p, 0, none⟩)] rfl e27 (C9.out p _ _ HD.out.rd) ?_
                      rintro y u19 ⟨v', rfl, hr, hg⟩
                      refine ⟨_, rfl, ?_⟩
                      have hd := DK.read HD.out hr hg
                      refine hK.out _ _ hd.cel (fun hHeld2 => ?_)
                      clear hK K hHeld
                      have hHeld := hHeld2
                      clear hHeld2
                      try simp only [Act.put, List.setIfInBounds_toArray, List.set_cons_zero, List.set_cons_succ]
                      have EQ := Lib.hid (And.intro (EQ.out.1.to (hg.block gm EQ.out.1.lt (by intro e; injection e with e; have := EQ.out.2; have := HD.out.hgr; omega))) EQ.out.2)
                      have HD := Lib.hid hd
                      clear hd hr hg
                      refine wpAnyH_ready (rs := [19]) (by kernel_rfl) (by simp) ?_
                      refine AllReadyH.cons (o := { dst := Option.some 31, op := Op.call { callee := Callee.value (Operand.tmp 30), args := #[], argTypes := #[] }, type := 3, pos := "bytes.go:44", after := #[{ on := 18, ground := Ground.data }, { on := 17, ground := Ground.chain }], guard := Option.none }) rfl (fun K hK => ?_) AllReadyH.nil
                      refine step_fun rfl _ _ _ rfl 25 _ rfl #[.pointer (some ⟨gr, 0, none⟩)] rfl e25 (C10.out p gr _ _ (HS.out _ HD.out.bel) HD.out.cell HD.out.rd) ?_
                      rintro y u20 ⟨v', rfl, hr, hg⟩
                      refine ⟨_, rfl, ?_⟩
                      have hd := DK.read HD.out hr hg
                      refine hK.out _ _ hd.cel (fun hHeld2 => ?_)
                      clear hK K hHeld
                      have hHeld := hHeld2
                      clear hHeld2
                      try simp only [Act.put, List.setIfInBounds_toArray, List.set_cons_zero, List.set_cons_succ]
                      have EQ := Lib.hid (And.intro (EQ.out.1.to (hg.block gm EQ.out.1.lt (by intro e; injection e with e; have := EQ.out.2; have := HD.out.hgr; omega))) EQ.out.2)
                      have HD := Lib.hid hd
                      clear hd hr hg
                      have EQ0 := Lib.hid EQ.out.1.lt
                      refine wpAnyH_ready (rs := [21]) (by kernel_rfl) (by simp) ?_
                      refine AllReadyH.cons (o := { dst := Option.some 33, op := Op.call { callee := Callee.value (Operand.func 28), args := #[Operand.tmp 32, Operand.const (Value.int IntKind.i64 4096)], argTypes := #[49, 3] }, type := 22, pos := "bytes.go:45", after := #[{ on := 20, ground := Ground.data }, { on := 19, ground := Ground.chain }], guard := Option.none }) rfl (fun K hK => ?_) AllReadyH.nil
                      refine step_fun rfl _ _ _ rfl 28 _ rfl #[.pointer (some ⟨p, 0, none⟩), .int .i64 4096] rfl e28 (C11.out p _ _ (HS.out _ HD.out.bel) HD.out.rd) ?_
                      rintro y WF ⟨v', Ad, cd, rfl, hx, hr, hg⟩
                      refine ⟨_, rfl, ?_⟩
                      have hd := DK.read HD.out hr hg
                      refine hK.out _ _ hd.cel (fun hHeld2 => ?_)
                      clear hK K hHeld
                      have hHeld := hHeld2
                      clear hHeld2
                      try simp only [Act.put, List.setIfInBounds_toArray, List.set_cons_zero, List.set_cons_succ]
                      have EQ := Lib.hid (And.intro (EQ.out.1.to (hg.block gm EQ.out.1.lt (by intro e; injection e with e; have := EQ.out.2; have := HD.out.hgr; omega))) EQ.out.2)
                      have XD := Lib.hid (hx.mono (T' := Tq W0 p gm WF) fun q hq => ⟨Nat.le_trans HD.out.bel.size hq.1, hq.2, by have := hq.1; have := HD.out.rd.lt; omega, by have := hq.1; have := EQ0.out; omega⟩)
                      clear hx
                      have HD := Lib.hid hd
                      clear hd hr hg
                      refine wpAnyH_take (i := 22) (oi := { dst := Option.some 34, op := Op.build 30 #[(0, Operand.tmp 13), (1, Operand.tmp 15), (2, Operand.tmp 17), (3, Operand.tmp 19), (4, Operand.tmp 21), (5, Operand.tmp 23), (6, Operand.tmp 25), (7, Operand.tmp 27), (8, Operand.tmp 29), (9, Operand.tmp 31), (10, Operand.tmp 33)], type := 30, pos := "bytes.go:34", after := #[{ on := 1, ground := Ground.data }, { on := 3, ground := Ground.data }, { on := 5, ground := Ground.data }, { on := 7, ground := Ground.data }, { on := 9, ground := Ground.data }, { on := 11, ground := Ground.data }, { on := 13, ground := Ground.data }, { on := 15, ground := Ground.data }, { on := 17, ground := Ground.data }, { on := 19, ground := Ground.data }, { on := 21, ground := Ground.data }], guard := Option.none }) (v := .agg #[.int .i64 (v1 : Int), .int .i64 (v2 : Int), .int .i64 (v3 : Int), .int .i64 (v4 : Int), .int .i64 (v5 : Int), .int .i64 (v6 : Int), .int .i64 (v7 : Int), .int .i64 (v8 : Int), .bool v9, .int .i64 (v10 : Int), .slice Ad n11 cd, .slice none 0 0]) rfl (by kernel_rfl) (by kernel_rfl) (by kernel_rfl) (fun _ _ _ h => h) (Or.inl ⟨by rfl, ?_⟩) hHeld ?_
                      · intro W hSw
                        go_simp
                      simp only [Act.put, List.setIfInBounds_toArray, List.set_cons_zero, List.set_cons_succ]
                    rotate_left
                    focus
                      refine step_fun rfl _ _ _ rfl 27 _ rfl #[.pointer (some ⟨p, 0, none⟩)] rfl e27 (C9.out p _ _ HD.out.rd) ?_
                      rintro y u9 ⟨v', rfl, hr, hg⟩
                      refine ⟨_, rfl, ?_⟩
                      have hd := DK.read HD.out hr hg
                      refine hK.out _ _ hd.cel (fun hHeld2 => ?_)
                      clear hK K hHeld
                      have hHeld := hHeld2
                      clear hHeld2
                      try simp only [Act.put, List.setIfInBounds_toArray, List.set_cons_zero, List.set_cons_succ]
                      have HD := Lib.hid hd
                      clear hd hr hg
                      refine wpAnyH_ready (rs := [19, 23]) (by kernel_rfl) (by simp) ?_
                      refine AllReadyH.cons (o := { dst := Option.some 31, op := Op.call { callee := Callee.value (Operand.tmp 30), args := #[], argTypes := #[] }, type := 3, pos := "bytes.go:44", after := #[{ on := 18, ground := Ground.data }, { on := 17, ground := Ground.chain }], guard := Option.none }) rfl (fun K hK => ?_) (AllReadyH.cons (o := { dst := Option.some 6, op := Op.alloc 30, type := 0, pos := "bytes.go:34", after := #[], guard := Option.none }) rfl (fun K hK => ?_) AllReadyH.nil)
                      rotate_left
                      focus
                        refine step_op' rfl ?_
                        go_simp
                        have hq := heap_alloc_new u9 (.cells #[.int .i64 0, .int .i64 0, .int .i64 0, .int .i64 0, .int .i64 0, .int .i64 0, .int .i64 0, .int .i64 0, .bool false, .int .i64 0, .slice none 0 0, .slice none 0 0] 30)
                        have hsb := below_alloc u9 (.cells #[.int .i64 0, .int .i64 0, .int .i64 0, .int .i64 0, .int .i64 0, .int .i64 0, .int .i64 0, .int .i64 0, .bool false, .int .i64 0, .slice none 0 0, .slice none 0 0] 30)
                        have hd := HD.out.more hsb
                        have hgl := HD.out.lt
                        refine hK.out _ _ hd.cel (fun hHeld2 => ?_)
                        clear hK K hHeld
                        have hHeld := hHeld2
                        clear hHeld2
                        try simp only [Act.put, List.setIfInBounds_toArray, List.set_cons_zero, List.set_cons_succ]
                        obtain ⟨u15, hVN⟩ : ∃ W, W = u9.alloc (.cells #[.int .i64 0, .int .i64 0, .int .i64 0, .int .i64 0, .int .i64 0, .int .i64 0, .int .i64 0, .int .i64 0, .bool false, .int .i64 0, .slice none 0 0, .slice none 0 0] 30) := ⟨_, rfl⟩
                        obtain ⟨gm, hgm⟩ : ∃ g, g = u9.heap.size := ⟨_, rfl⟩
                        rw [← hVN] at hq hsb hd hHeld ⊢
                        rw [← hgm] at hq hgl ⊢
                        have EQ := Lib.hid (And.intro (show N12 u15 gm (.int .i64 0) (.int .i64 0) (.int .i64 0) (.int .i64 0) (.int .i64 0) (.int .i64 0) (.int .i64 0) (.int .i64 0) (.bool false) (.int .i64 0) (.slice none 0 0) (.slice none 0 0) from hq) hgl)
                        have EQ0 := Lib.hid (obj_lt hq)
                        have HD := Lib.hid hd
                        clear hq hsb hd hgl hVN hgm
                        refine wpAnyH_ready (rs := [19]) (by kernel_rfl) (by simp) ?_
                        refine AllReadyH.cons (o := { dst := Option.some 31, op := Op.call { callee := Callee.value (Operand.tmp 30), args := #[], argTypes := #[] }, type := 3, pos := "bytes.go:44", after := #[{ on := 18, ground := Ground.data }, { on := 17, ground := Ground.chain }], guard := Option.none }) rfl (fun K hK => ?_) AllReadyH.nil
                        refine step_fun rfl _ _ _ rfl 25 _ rfl #[.pointer (some ⟨gr, 0, none⟩)] rfl e25 (C10.out p gr _ _ (HS.out _ HD.out.bel) HD.out.cell HD.out.rd) ?_
                        rintro y u16 ⟨v', rfl, hr, hg⟩
                        refine ⟨_, rfl, ?_⟩
                        have hd := DK.read HD.out hr hg
                        refine hK.out _ _ hd.cel (fun hHeld2 => ?_)
                        clear hK K hHeld
                        have hHeld := hHeld2
                        clear hHeld2
                        try simp only [Act.put, List.setIfInBounds_toArray, List.set_cons_zero, List.set_cons_succ]
                        have EQ := Lib.hid (And.intro (EQ.out.1.to (hg.block gm EQ.out.1.lt (by intro e; injection e with e; have := EQ.out.2; have := HD.out.hgr; omega))) EQ.out.2)
                        have HD := Lib.hid hd
                        clear hd hr hg
                        have EQ0 := Lib.hid EQ.out.1.lt
                        refine wpAnyH_ready (rs := [21]) (by kernel_rfl) (by simp) ?_
                        refine AllReadyH.cons (o := { dst := Option.some 33, op := Op.call { callee := Callee.value (Operand.func 28), args := #[Operand.tmp 32, Operand.const (Value.int IntKind.i64 4096)], argTypes := #[49, 3] }, type := 22, pos := "bytes.go:45", after := #[{ on := 20, ground := Ground.data }, { on := 19, ground := Ground.chain }], guard := Option.none }) rfl (fun K hK => ?_) AllReadyH.nil
                        refine step_fun rfl _ _ _ rfl 28 _ rfl #[.pointer (some ⟨p, 0, none⟩), .int .i64 4096] rfl e28 (C11.out p _ _ (HS.out _ HD.out.bel) HD.out.rd) ?_
                        rintro y WF ⟨v', Ad, cd, rfl, hx, hr, hg⟩
                        refine ⟨_, rfl, ?_⟩
                        have hd := DK.read HD.out hr hg
                        refine hK.out _ _ hd.cel (fun hHeld2 => ?_)
                        clear hK K hHeld
                        have hHeld := hHeld2
                        clear hHeld2
                        try simp only [Act.put, List.setIfInBounds_toArray, List.set_cons_zero, List.set_cons_succ]
                        have EQ := Lib.hid (And.intro (EQ.out.1.to (hg.block gm EQ.out.1.lt (by intro e; injection e with e; have := EQ.out.2; have := HD.out.hgr; omega))) EQ.out.2)
                        have XD := Lib.hid (hx.mono (T' := Tq W0 p gm WF) fun q hq => ⟨Nat.le_trans HD.out.bel.size hq.1, hq.2, by have := hq.1; have := HD.out.rd.lt; omega, by have := hq.1; have := EQ0.out; omega⟩)
                        clear hx
                        have HD := Lib.hid hd
                        clear hd hr hg
                        refine wpAnyH_take (i := 22) (oi := { dst := Option.some 34, op := Op.build 30 #[(0, Operand.tmp 13), (1, Operand.tmp 15), (2, Operand.tmp 17), (3, Operand.tmp 19), (4, Operand.tmp 21), (5, Operand.tmp 23), (6, Operand.tmp 25), (7, Operand.tmp 27), (8, Operand.tmp 29), (9, Operand.tmp 31), (10, Operand.tmp 33)], type := 30, pos := "bytes.go:34", after := #[{ on := 1, ground := Ground.data }, { on := 3, ground := Ground.data }, { on := 5, ground := Ground.data }, { on := 7, ground := Ground.data }, { on := 9, ground := Ground.data }, { on := 11, ground := Ground.data }, { on := 13, ground := Ground.data }, { on := 15, ground := Ground.data }, { on := 17, ground := Ground.data }, { on := 19, ground := Ground.data }, { on := 21, ground := Ground.data }], guard := Option.none }) (v := .agg #[.int .i64 (v1 : Int), .int .i64 (v2 : Int), .int .i64 (v3 : Int), .int .i64 (v4 : Int), .int .i64 (v5 : Int), .int .i64 (v6 : Int), .int .i64 (v7 : Int), .int .i64 (v8 : Int), .bool v9, .int .i64 (v10 : Int), .slice Ad n11 cd, .slice none 0 0]) rfl (by kernel_rfl) (by kernel_rfl) (by kernel_rfl) (fun _ _ _ h => h) (Or.inl ⟨by rfl, ?_⟩) hHeld ?_
                        · intro W hSw
                          go_simp
                        simp only [Act.put, List.setIfInBounds_toArray, List.set_cons_zero, List.set_cons_succ]
                      rotate_left
                      focus
                        refine step_fun rfl _ _ _ rfl 25 _ rfl #[.pointer (some ⟨gr, 0, none⟩)] rfl e25 (C10.out p gr _ _ (HS.out _ HD.out.bel) HD.out.cell HD.out.rd) ?_
                        rintro y u10 ⟨v', rfl, hr, hg⟩
                        refine ⟨_, rfl, ?_⟩
                        have hd := DK.read HD.out hr hg
                        refine hK.out _ _ hd.cel (fun hHeld2 => ?_)
                        clear hK K hHeld
                        have hHeld := hHeld2
                        clear hHeld2
                        try simp only [Act.put, List.setIfInBounds_toArray, List.set_cons_zero, List.set_cons_succ]
                        have HD := Lib.hid hd
                        clear hd hr hg
                        refine wpAnyH_ready (rs := [21, 23]) (by kernel_rfl) (by simp) ?_
                        refine AllReadyH.cons (o := { dst := Option.some 33, op := Op.call { callee := Callee.value (Operand.func 28), args := #[Operand.tmp 32, Operand.const (Value.int IntKind.i64 4096)], argTypes := #[49, 3] }, type := 22, pos := "bytes.go:45", after := #[{ on := 20, ground := Ground.data }, { on := 19, ground := Ground.chain }], guard := Option.none }) rfl (fun K hK => ?_) (AllReadyH.cons (o := { dst := Option.some 6, op := Op.alloc 30, type := 0, pos := "bytes.go:34", after := #[], guard := Option.none }) rfl (fun K hK => ?_) AllReadyH.nil)
                        rotate_left
                        focus
                          refine step_op' rfl ?_
                          go_simp
                          have hq := heap_alloc_new u10 (.cells #[.int .i64 0, .int .i64 0, .int .i64 0, .int .i64 0, .int .i64 0, .int .i64 0, .int .i64 0, .int .i64 0, .bool false, .int .i64 0, .slice none 0 0, .slice none 0 0] 30)
                          have hsb := below_alloc u10 (.cells #[.int .i64 0, .int .i64 0, .int .i64 0, .int .i64 0, .int .i64 0, .int .i64 0, .int .i64 0, .int .i64 0, .bool false, .int .i64 0, .slice none 0 0, .slice none 0 0] 30)
                          have hd := HD.out.more hsb
                          have hgl := HD.out.lt
                          refine hK.out _ _ hd.cel (fun hHeld2 => ?_)
                          clear hK K hHeld
                          have hHeld := hHeld2
                          clear hHeld2
                          try simp only [Act.put, List.setIfInBounds_toArray, List.set_cons_zero, List.set_cons_succ]
                          obtain ⟨u13, hVN⟩ : ∃ W, W = u10.alloc (.cells #[.int .i64 0, .int .i64 0, .int .i64 0, .int .i64 0, .int .i64 0, .int .i64 0, .int .i64 0, .int .i64 0, .bool false, .int .i64 0, .slice none 0 0, .slice none 0 0] 30) := ⟨_, rfl⟩
                          obtain ⟨gm, hgm⟩ : ∃ g, g = u10.heap.size := ⟨_, rfl⟩
                          rw [← hVN] at hq hsb hd hHeld ⊢
                          rw [← hgm] at hq hgl ⊢
                          have EQ := Lib.hid (And.intro (show N12 u13 gm (.int .i64 0) (.int .i64 0) (.int .i64 0) (.int .i64 0) (.int .i64 0) (.int .i64 0) (.int .i64 0) (.int .i64 0) (.bool false) (.int .i64 0) (.slice none 0 0) (.slice none 0 0) from hq) hgl)
                          have EQ0 := Lib.hid (obj_lt hq)
                          have HD := Lib.hid hd
                          clear hq hsb hd hgl hVN hgm
                          refine wpAnyH_ready (rs := [21]) (by kernel_rfl) (by simp) ?_
                          refine AllReadyH.cons (o := { dst := Option.some 33, op := Op.call { callee := Callee.value (Operand.func 28), args := #[Operand.tmp 32, Operand.const (Value.int IntKind.i64 4096)], argTypes := #[49, 3] }, type := 22, pos := "bytes.go:45", after := #[{ on := 20, ground := Ground.data }, { on := 19, ground := Ground.chain }], guard := Option.none }) rfl (fun K hK => ?_) AllReadyH.nil
                          refine step_fun rfl _ _ _ rfl 28 _ rfl #[.pointer (some ⟨p, 0, none⟩), .int .i64 4096] rfl e28 (C11.out p _ _ (HS.out _ HD.out.bel) HD.out.rd) ?_
                          rintro y WF ⟨v', Ad, cd, rfl, hx, hr, hg⟩
                          refine ⟨_, rfl, ?_⟩
                          have hd := DK.read HD.out hr hg
                          refine hK.out _ _ hd.cel (fun hHeld2 => ?_)
                          clear hK K hHeld
                          have hHeld := hHeld2
                          clear hHeld2
                          try simp only [Act.put, List.setIfInBounds_toArray, List.set_cons_zero, List.set_cons_succ]
                          have EQ := Lib.hid (And.intro (EQ.out.1.to (hg.block gm EQ.out.1.lt (by intro e; injection e with e; have := EQ.out.2; have := HD.out.hgr; omega))) EQ.out.2)
                          have XD := Lib.hid (hx.mono (T' := Tq W0 p gm WF) fun q hq => ⟨Nat.le_trans HD.out.bel.size hq.1, hq.2, by have := hq.1; have := HD.out.rd.lt; omega, by have := hq.1; have := EQ0.out; omega⟩)
                          clear hx
                          have HD := Lib.hid hd
                          clear hd hr hg
                          refine wpAnyH_take (i := 22) (oi := { dst := Option.some 34, op := Op.build 30 #[(0, Operand.tmp 13), (1, Operand.tmp 15), (2, Operand.tmp 17), (3, Operand.tmp 19), (4, Operand.tmp 21), (5, Operand.tmp 23), (6, Operand.tmp 25), (7, Operand.tmp 27), (8, Operand.tmp 29), (9, Operand.tmp 31), (10, Operand.tmp 33)], type := 30, pos := "bytes.go:34", after := #[{ on := 1, ground := Ground.data }, { on := 3, ground := Ground.data }, { on := 5, ground := Ground.data }, { on := 7, ground := Ground.data }, { on := 9, ground := Ground.data }, { on := 11, ground := Ground.data }, { on := 13, ground := Ground.data }, { on := 15, ground := Ground.data }, { on := 17, ground := Ground.data }, { on := 19, ground := Ground.data }, { on := 21, ground := Ground.data }], guard := Option.none }) (v := .agg #[.int .i64 (v1 : Int), .int .i64 (v2 : Int), .int .i64 (v3 : Int), .int .i64 (v4 : Int), .int .i64 (v5 : Int), .int .i64 (v6 : Int), .int .i64 (v7 : Int), .int .i64 (v8 : Int), .bool v9, .int .i64 (v10 : Int), .slice Ad n11 cd, .slice none 0 0]) rfl (by kernel_rfl) (by kernel_rfl) (by kernel_rfl) (fun _ _ _ h => h) (Or.inl ⟨by rfl, ?_⟩) hHeld ?_
                          · intro W hSw
                            go_simp
                          simp only [Act.put, List.setIfInBounds_toArray, List.set_cons_zero, List.set_cons_succ]
                        rotate_left
                        focus
                          refine step_fun rfl _ _ _ rfl 28 _ rfl #[.pointer (some ⟨p, 0, none⟩), .int .i64 4096] rfl e28 (C11.out p _ _ (HS.out _ HD.out.bel) HD.out.rd) ?_
                          rintro y u11 ⟨v', Ad, cd, rfl, hx, hr, hg⟩
                          refine ⟨_, rfl, ?_⟩
                          have hd := DK.read HD.out hr hg
                          refine hK.out _ _ hd.cel (fun hHeld2 => ?_)
                          clear hK K hHeld
                          have hHeld := hHeld2
                          clear hHeld2
                          try simp only [Act.put, List.setIfInBounds_toArray, List.set_cons_zero, List.set_cons_succ]
                          have XD := Lib.hid (hx.mono (T' := fun q => W0.heap.size ≤ q ∧ q < u11.heap.size ∧ q ≠ p) fun q hq => ⟨Nat.le_trans HD.out.bel.size hq.1, hq.2, by have := hq.1; have := HD.out.rd.lt; omega⟩)
                          clear hx
                          have HD := Lib.hid hd
                          clear hd hr hg
                          refine wpAnyH_take (i := 22) (oi := { dst := Option.some 34, op := Op.build 30 #[(0, Operand.tmp 13), (1, Operand.tmp 15), (2, Operand.tmp 17), (3, Operand.tmp 19), (4, Operand.tmp 21), (5, Operand.tmp 23), (6, Operand.tmp 25), (7, Operand.tmp 27), (8, Operand.tmp 29), (9, Operand.tmp 31), (10, Operand.tmp 33)], type := 30, pos := "bytes.go:34", after := #[{ on := 1, ground := Ground.data }, { on := 3, ground := Ground.data }, { on := 5, ground := Ground.data }, { on := 7, ground := Ground.data }, { on := 9, ground := Ground.data }, { on := 11, ground := Ground.data }, { on := 13, ground := Ground.data }, { on := 15, ground := Ground.data }, { on := 17, ground := Ground.data }, { on := 19, ground := Ground.data }, { on := 21, ground := Ground.data }], guard := Option.none }) (v := .agg #[.int .i64 (v1 : Int), .int .i64 (v2 : Int), .int .i64 (v3 : Int), .int .i64 (v4 : Int), .int .i64 (v5 : Int), .int .i64 (v6 : Int), .int .i64 (v7 : Int), .int .i64 (v8 : Int), .bool v9, .int .i64 (v10 : Int), .slice Ad n11 cd, .slice none 0 0]) rfl (by kernel_rfl) (by kernel_rfl) (by kernel_rfl) (fun _ _ _ h => h) (Or.inl ⟨by rfl, ?_⟩) hHeld ?_
                          · intro W hSw
                            go_simp
                          simp only [Act.put, List.setIfInBounds_toArray, List.set_cons_zero, List.set_cons_succ]
                          refine wpAnyH_ready (rs := [23]) (by kernel_rfl) (by simp) ?_
                          refine AllReadyH.cons (o := { dst := Option.some 6, op := Op.alloc 30, type := 0, pos := "bytes.go:34", after := #[], guard := Option.none }) rfl (fun K hK => ?_) AllReadyH.nil
                          refine step_op' rfl ?_
                          go_simp
                          have hq := heap_alloc_new u11 (.cells #[.int .i64 0, .int .i64 0, .int .i64 0, .int .i64 0, .int .i64 0, .int .i64 0, .int .i64 0, .int .i64 0, .bool false, .int .i64 0, .slice none 0 0, .slice none 0 0] 30)
                          have hsb := below_alloc u11 (.cells #[.int .i64 0, .int .i64 0, .int .i64 0, .int .i64 0, .int .i64 0, .int .i64 0, .int .i64 0, .int .i64 0, .bool false, .int .i64 0, .slice none 0 0, .slice none 0 0] 30)
                          have hd := HD.out.more hsb
                          have hgl := HD.out.lt
                          refine hK.out _ _ hd.cel (fun hHeld2 => ?_)
                          clear hK K hHeld
                          have hHeld := hHeld2
                          clear hHeld2
                          try simp only [Act.put, List.setIfInBounds_toArray, List.set_cons_zero, List.set_cons_succ]
                          obtain ⟨WF, hVN⟩ : ∃ W, W = u11.alloc (.cells #[.int .i64 0, .int .i64 0, .int .i64 0, .int .i64 0, .int .i64 0, .int .i64 0, .int .i64 0, .int .i64 0, .bool false, .int .i64 0, .slice none 0 0, .slice none 0 0] 30) := ⟨_, rfl⟩
                          obtain ⟨gm, hgm⟩ : ∃ g, g = u11.heap.size := ⟨_, rfl⟩
                          rw [← hVN] at hq hsb hd hHeld ⊢
                          rw [← hgm] at hq hgl ⊢
                          have EQ := Lib.hid (And.intro (show N12 WF gm (.int .i64 0) (.int .i64 0) (.int .i64 0) (.int .i64 0) (.int .i64 0) (.int .i64 0) (.int .i64 0) (.int .i64 0) (.bool false) (.int .i64 0) (.slice none 0 0) (.slice none 0 0) from hq) hgl)
                          have EQ0 := Lib.hid (obj_lt hq)
                          have XD := Lib.hid ((XD.out.kept fun k hk _ => hsb.block k hk.2.1).mono (T' := Tq W0 p gm WF) fun q hq => ⟨hq.1, Nat.lt_of_lt_of_le hq.2.1 hsb.size, hq.2.2, by have := hq.2.1; omega⟩)
                          have HD := Lib.hid hd
                          clear hq hsb hd hgl hVN hgm
    all_goals
      refine wpAnyH_ready (rs := [24]) (by kernel_rfl) (by simp) ?_
      refine AllReadyH.cons (o := { dst := Option.none, op := Op.store 30 (Operand.tmp 6) (Operand.tmp 34), type := 0, pos := "bytes.go:34", after := #[{ on := 23, ground := Ground.data }, { on := 22, ground := Ground.data }, { on := 21, ground := Ground.chain }, { on := 0, ground := Ground.phase }, { on := 1, ground := Ground.phase }, { on := 2, ground := Ground.phase }, { on := 3, ground := Ground.phase }, { on := 4, ground := Ground.phase }, { on := 5, ground := Ground.phase }, { on := 6, ground := Ground.phase }, { on := 7, ground := Ground.phase }, { on := 8, ground := Ground.phase }, { on := 9, ground := Ground.phase }, { on := 10, ground := Ground.phase }, { on := 11, ground := Ground.phase }, { on := 12, ground := Ground.phase }, { on := 13, ground := Ground.phase }, { on := 14, ground := Ground.phase }, { on := 15, ground := Ground.phase }, { on := 16, ground := Ground.phase }, { on := 17, ground := Ground.phase }, { on := 18, ground := Ground.phase }, { on := 19, ground := Ground.phase }, { on := 20, ground := Ground.phase }, { on := 21, ground := Ground.phase }, { on := 22, ground := Ground.phase }, { on := 23, ground := Ground.phase }], guard := Option.none }) rfl (fun K hK => ?_) AllReadyH.nil
      refine step_put12 rfl _ _ rfl gm rfl rfl EQ.out.1 ?_
      intro F hE hbQ hoth hsF
      have hd := HD.out.low (hbQ gm (Nat.le_refl _)) EQ.out.2
      refine hK.out _ _ hd.cel (fun hHeld2 => ?_)
      clear hK K hHeld hHeld2
      have HR := Lib.hid (And.intro hd (And.intro hE ((XD.out.kept fun k hk _ => hoth k hk.2.2.2).mono (T' := Tq W0 p gm F) fun q hq => ⟨hq.1, by rw [hsF]; exact hq.2.1, hq.2.2⟩)))
      clear hd hE hbQ hoth hsF
      refine wpAnyH_done (by kernel_rfl) ?_ _
      go_wp2_with fail
      go_meet
      exact ⟨gm, Ad, cd, _, F, rfl, rfl, EQ.out.2, HR.out.1, HR.out.2.1, HR.out.2.2⟩
  case rest =>
    obtain ⟨gm, Ad, cd, v', V, rfl, rfl, hgm, hdk, hm, hx⟩ := hcut
    have hc := hdk.cell
    have HG := Lib.hid hgm
    have HM := Lib.hid (And.intro hdk (And.intro hm hx))
    clear hdk hm hx hgm C1 C2 C3 C4 C5 C6 C7 C8 C9 C10 C11 e25 e27 e28 HD
    go_wp2_with (go_at_call 29; go_must (refine (C12.out p _ _ (HS.out _ HM.out.1.bel) HM.out.1.rd).mono ?_; rintro y w3 ⟨vr3, rfl, hr, hg⟩; have H3 := Lib.hid (And.intro (HM.out.1.read hr hg) (And.intro (HM.out.2.1.to (hg.block gm HM.out.2.1.lt (by intro e; injection e with e; have h1 := HM.out.1.hgr; have h2 := HG.out; omega))) (show SlT w3 (Tc W0 w3.heap.size p gm) (.slice Ad n11 cd) v11 from (HM.out.2.2.kept fun q hq hq2 => hg.block q hq2 (by intro e; injection e with e; exact hq.2.2.1 e)).mono fun q hq => ⟨hq.1, Nat.lt_of_lt_of_le hq.2.1 hg.size, hq.2.2⟩))); clear hr hg))
    obtain ⟨CB, hCB⟩ : ∃ C, C = w3.heap.size := ⟨_, rfl⟩
    have HCB := Lib.hid (And.intro hCB (show gm < CB by rw [hCB]; exact H3.out.2.1.lt))
    clear hCB hc
    go_loopw [37] (fun ii wr => ∃ (j : Nat) (es : List En) (s : List UInt8) (k : Nat) (v' : Value) (va : Value), ii = .int .i64 (j : Int) ∧ es.length = j ∧ Hid ((DK W0 p gr wr v' s k ∧ N12 wr gm (.int .i64 (v1 : Int)) (.int .i64 (v2 : Int)) (.int .i64 (v3 : Int)) (.int .i64 (v4 : Int)) (.int .i64 (v5 : Int)) (.int .i64 (v6 : Int)) (.int .i64 (v7 : Int)) (.int .i64 (v8 : Int)) (.bool v9) (.int .i64 (v10 : Int)) (.slice Ad n11 cd) va ∧ SlT wr (Tc W0 CB p gm) (.slice Ad n11 cd) v11 ∧ OwnE wr CB (fun q => CB ≤ q) 57 va es) ∧ CB ≤ wr.heap.size ∧ LD cnt j s k true es sF kF okF esF ∧ (∀ e ∈ es, e.data.length ≤ 4096) ∧ s.length ≤ 140737488355328)) (fun ii _ => cnt - (intOf ii).toNat)
    case atStart => exact ⟨0, [], s12, k12, vr3, .slice none 0 0, rfl, rfl, Lib.hid ⟨⟨H3.out.1, H3.out.2.1, by rw [HCB.out.1]; exact H3.out.2.2, OwnE.nil_ _ _ _ _⟩, Nat.le_of_eq HCB.out.1, HLD.out, (fun e he => by cases he), HN.out.2.1⟩⟩
    case round =>
      obtain ⟨j, es, s, k, v', va, rfl, hes, HR⟩ := hrel
      obtain ⟨Av, cv, rfl, -, -⟩ := HR.out.1.2.2.2.form hes
      have hc := HR.out.1.1.cell
      by_cases hlt : j < cnt
      · have i1 : (j : Int) < (cnt : Int) := by omega
        rcases hrb : rBytes 98 4200 (s, k) with ⟨⟨t1, q1⟩, x⟩
        rcases hde : decE x with ⟨e, f⟩
        have hsh := rBytes_short hrb HR.out.2.2.2.2
        obtain ⟨mx, hmx⟩ : ∃ mx, mx = x.length := ⟨_, rfl⟩
        obtain ⟨me, hme⟩ : ∃ me, me = e.data.length := ⟨_, rfl⟩
        have CR := Lib.hid (Bytes_s p 4200 (by omega) s k HR.out.2.2.2.2 t1 q1 x hrb mx hmx v' wr (HS.out _ HR.out.1.1.bel) HR.out.1.1.rd)
        have CD := Lib.hid fun A c W hs h => EDec_any A mx c x W hs h (by rw [hmx]; exact hsh.2) e f hde me hme
        have hfk := decE_kind x
        rw [hde] at hfk
        have HX := Lib.hid (And.intro hsh.1 (And.intro hme (And.intro hes hlt)))
        have HP := Lib.hid (And.intro hrb hde)
        clear hrb hde hsh hmx hme hes hlt
        rcases (show f = 3 ∨ f = 0 from by rcases hfk with h1 | h1; exact Or.inr h1; exact Or.inl h1) with rfl | rfl
        · have hmk : (m, kk) = (zm, 3) := by
            rw [HN.out.2.2.2.1, ld_bad HR.out.2.2.1 HX.out.2.2.2 HP.out.1 HP.out.2 (by decide), Bool.false_and, if_neg (by simp)]
          obtain ⟨rfl, rfl⟩ := Prod.mk.inj hmk
          rw [er_ne (by decide)] at CD
          clear hmk hfk
          go_upto_region 7 with (first
            | (go_at_call 28; go_must (refine CR.out.mono ?_; rintro y w5 ⟨vr5, Ax, cx, rfl, hX, hr, hg⟩; have H5 := Lib.hid (And.intro (ls_read HR.out.1.1 HG.out HCB.out.2 HR.out.1.2.1 HR.out.1.2.2.1 HR.out.1.2.2.2 hr hg) (show Bys w5 (.slice Ax mx cx) x from hX.mono fun q hq => hq.2)); clear hr hg hX))
            | (go_at_call 30; go_must (refine (CD.out Ax cx w5 (HS.out _ H5.out.1.1.bel) H5.out.2).mono ?_; rintro y w6 ⟨A6, c6, rfl, -, hb⟩; have hb7 := hb.alloc hb.size (.cells #[.int .i64 e.index, .int .i64 e.term, .int .i64 e.kind, .slice A6 me c6] 57); have H7 := Lib.hid (H5.out.1.1.more hb7).bel; clear hb hb7)))
          have TZ : N12 _ g0 (.int .i64 0) (.int .i64 0) (.int .i64 0) (.int .i64 0) (.int .i64 0) (.int .i64 0) (.int .i64 0) (.int .i64 0) (.bool false) (.int .i64 0) (.slice none 0 0) (.slice none 0 0) := HE.out.2.1.to (H7.out.block g0 HE.out.2.1.lt)
          obtain ⟨z0, z1, z2, z3, z4, z5, z6, z7, z8, z9, z10, z11⟩ := cells12 TZ
          have f0 := frozen_own TZ 0; have f1 := frozen_own TZ 1; have f2 := frozen_own TZ 2; have f3 := frozen_own TZ 3; have f4 := frozen_own TZ 4; have f5 := frozen_own TZ 5; have f6 := frozen_own TZ 6; have f7 := frozen_own TZ 7; have f8 := frozen_own TZ 8; have f9 := frozen_own TZ 9; have f10 := frozen_own TZ 10; have f11 := frozen_own TZ 11
          go_wp2_with fail
          obtain ⟨F, hF, hE, hbQ, hoth, hsF⟩ := put12 TZ (.int .i64 0) (.int .i64 0) (.int .i64 0) (.int .i64 0) (.int .i64 0) (.int .i64 0) (.int .i64 0) (.int .i64 0) (.bool false) (.int .i64 0) (.slice none 0 0) (.slice none 0 0)
          rw [← hF]
          clear hF z0 z1 z2 z3 z4 z5 z6 z7 z8 z9 z10 z11
          obtain ⟨z0, z1, z2, z3, z4, z5, z6, z7, z8, z9, z10, z11⟩ := cells12 hE
          have hgw := HW.out.2
          have hnd : nd = 0 := HN.out.2.2.2.2.1
          have hne : ne = 0 := HN.out.2.2.2.2.2
          subst hnd
          subst hne
          exact bodyPost_ret (v := .tuple #[.agg #[.int .i64 0, .int .i64 0, .int .i64 0, .int .i64 0, .int .i64 0, .int .i64 0, .int .i64 0, .int .i64 0, .bool false, .int .i64 0, .slice none 0 0, .slice none 0 0], .iface 60 (.int .i64 3)]) (by simp [results, Tryz.results11, go_sem, z0, z1, z2, z3, z4, z5, z6, z7, z8, z9, z10, z11]) rfl ⟨none, 0, none, 0, rfl, ⟨SlT.nil_ _ _, ⟨[], RowT.nil_ _ _ _, fun j h => by simp [zm] at h⟩, fun e he => by simp [zm] at he, by unfold zm inI; decide⟩, (HE.out.1.trans (H7.out.mono HE.out.1.size)).trans (hbQ _ (by omega))⟩
        · have hk0 : k = 0 := by
            by_cases hk : k = 0
            · exact hk
            · exfalso
              have h1 := rBytes_stop HP.out.1 hk
              have h2 := HP.out.2
              rw [h1] at h2
              have h3 := decE_nil_
              rw [h2] at h3
              cases h3
          subst hk0
          have hL := ld_next HR.out.2.2.1 HX.out.2.2.2 HP.out.1 HP.out.2
          rw [decide_eq_true (rfl : (0 : Nat) = 0), Bool.and_true] at hL
          have hfit : e.data.length ≤ 4096 := by
            have h1 := (decE_inv (b := x) (by rw [HP.out.2])).2
            rw [HP.out.2] at h1
            exact (fitM_iff.1 h1).2.2.2.2.2.2
          have HL := Lib.hid (And.intro hL hfit)
          rw [er_zero] at CD
          clear hL hfit hfk
          go_upto_region 7 with (first
            | (go_at_call 28; go_must (refine CR.out.mono ?_; rintro y w5 ⟨vr5, Ax, cx, rfl, hX, hr, hg⟩; have H5 := Lib.hid (And.intro (ls_read HR.out.1.1 HG.out HCB.out.2 HR.out.1.2.1 HR.out.1.2.2.1 HR.out.1.2.2.2 hr hg) (And.intro (show Bys w5 (.slice Ax mx cx) x from hX.mono fun q hq => hq.2) (Nat.le_trans HR.out.2.1 hg.size))); have HSZ := Lib.hid hg.size; clear hr hg hX))
            | (go_at_call 30; go_must (refine (CD.out Ax cx w5 (HS.out _ H5.out.1.1.bel) H5.out.2.1).mono ?_; rintro y w6 ⟨A6, c6, rfl, hdat, hb⟩; have H6 := Lib.hid (And.intro hdat hb); clear hb hdat)))
          obtain ⟨V2, q2, hV2, hq2, hb2, hE2, hsz2⟩ := one_box w6 (.cells #[.int .i64 e.index, .int .i64 e.term, .int .i64 e.kind, .slice A6 me c6] 57)
          rw [← hV2, ← hq2]
          have hb7 : Below w5.heap.size w5 V2 := H6.out.2.trans (hb2.mono H6.out.2.size)
          have H7 := Lib.hid (And.intro (ls_more H5.out.1.1 H5.out.1.2.1 H5.out.1.2.2.1 H5.out.1.2.2.2 hb7) (And.intro (show SlT V2 (fun q => w5.heap.size ≤ q ∧ q < V2.heap.size) (.slice A6 me c6) e.data from (H6.out.1.kept fun q hq _ => hb2.block q hq.2).mono fun q hq => ⟨hq.1, Nat.lt_of_lt_of_le hq.2 hb2.size⟩) (show CB ≤ V2.heap.size from Nat.le_trans H5.out.2.2 hb7.size)))
          obtain ⟨e0, e1, e2, e3⟩ := cells4 hE2
          obtain ⟨y0, y1, y2, y3, y4, y5, y6, y7, y8, y9, y10, y11⟩ := cells12 H7.out.1.2.1
          clear y0 y1 y2 y3 y4 y5 y6 y7 y8 y9 y10 hV2 hq2 hb2 hE2 hsz2 hb7 hc
          go_upto_region 9 with fail
          go_upto_region 10 with (at_builtin; go_must (refine wpList_pushE (B := CB) (Q := fun q => CB ≤ q) (t := 57) (l := es) (H7.out.1.2.2.2.more (below_alloc V2 _)) rfl _ _ 28 Tryz.underlying28 info_ent rfl rfl V2.heap.size e A6 c6 rfl ?c0 ?c1 ?c2 ?c3 ?c4))
          case c0 => rw [← HX.out.2.1]; exact heap_alloc_new V2 _
          case c1 =>
            rw [← HX.out.2.1]
            refine (H7.out.2.1.kept fun k hk _ => heap_alloc_old _ _ hk.2).mono fun k hk => ⟨Nat.le_trans H5.out.2.2 hk.1, by rw [World.size_alloc]; have := hk.2; omega, fun e' => ?_⟩
            have h1 := (HR.out.1.2.2.2.lt k e').2
            have h2 := HSZ.out
            have h3 := hk.1
            omega
          case c2 => have h1 := HX.out.2.2.1; have h2 := HX.out.2.2.2; have h3 := HN.out.2.2.1; omega
          case c3 => have h1 := H7.out.2.2; rw [World.size_alloc]; omega
          case c4 =>
            intro v2' w' ho' hg' _
            obtain ⟨Av2, cv2, rfl, -, -⟩ := ho'.form (j := j + 1) (by rw [List.length_append, HX.out.2.2.1]; rfl)
            have hb5 : Below CB V2 w' := ((below_alloc V2 (Obj.cells #[.int .i64 e.index, .int .i64 e.term, .int .i64 e.kind, .slice A6 me c6] 57)).mono H7.out.2.2).trans ((Below.refl CB _).grown hg' (by rw [World.size_alloc]; have := H7.out.2.2; omega) fun k hk => (H7.out.1.2.2.2.lt k hk).1)
            have hgl := HG.out
            have hcl := HCB.out.2
            have TN := H7.out.1.2.1.to (hb5.block gm hcl)
            obtain ⟨y0, y1, y2, y3, y4, y5, y6, y7, y8, y9, y10, y11⟩ := cells12 TN
            have f11 := frozen_own TN 11
            have HF := Lib.hid (And.intro (show DK W0 p gr (w'.setCell ⟨gm, 11, none⟩ (.slice Av2 (j + 1) cv2)) vr5 t1 q1 from (H7.out.1.1.low hb5 (by omega)).low (C := gr + 1) ((Below.refl (gr + 1) w').setCell (p := ⟨gm, 11, none⟩) (by simp only; omega) (.slice Av2 (j + 1) cv2)) (by omega))
              (And.intro (TN.set11 (.slice Av2 (j + 1) cv2))
              (And.intro (show SlT (w'.setCell ⟨gm, 11, none⟩ (.slice Av2 (j + 1) cv2)) (Tc W0 CB p gm) (.slice Ad n11 cd) v11 from H7.out.1.2.2.1.kept fun q hq hq2 => (Below.heap_setCell _ _ _ _ (by simp only; exact hq.2.2.2)).trans (hb5.block q hq.2.1))
              (show OwnE (w'.setCell ⟨gm, 11, none⟩ (.slice Av2 (j + 1) cv2)) CB (fun q => CB ≤ q) 57 (.slice Av2 (j + 1) cv2) (es ++ [e]) from ho'.kept (fun q hq ho => Below.heap_setCell _ _ _ _ (by rcases ho with h3 | h3; (have h4 : CB ≤ q := h3; simp only; omega); (have h4 := (ho'.lt q h3).1; simp only; omega))) (by simp)))))
            have HF2 := Lib.hid (show CB ≤ (w'.setCell ⟨gm, 11, none⟩ (.slice Av2 (j + 1) cv2)).heap.size by rw [World.size_setCell]; exact Nat.le_trans H7.out.2.2 hb5.size)
            clear TN ho' hg' hb5 hgl hcl y0 y1 y2 y3 y4 y5 y6 y7 y8 y9 y10
            have hjj := HX.out.2.2.2
            have hcc := HN.out.2.2.1
            go_upto_region 10 with fail
            go_wp2_with fail
            go_roundw
            case rel => exact ⟨j + 1, es ++ [e], t1, q1, vr5, _, by go_num, by rw [List.length_append, HX.out.2.2.1]; rfl, Lib.hid ⟨HF.out, HF2.out, HL.out.1, (fun y hy => by rcases List.mem_append.mp hy with h1 | h1; exact HR.out.2.2.2.1 y h1; rw [List.mem_singleton.mp h1]; exact HL.out.2), HX.out.1⟩⟩
            case measure => have := HX.out.2.2.2; simp [intOf]; omega
      · have hjc : j = cnt := by have := HR.out.2.2.1.le; omega
        obtain ⟨rfl, rfl, rfl, rfl⟩ := ld_end HR.out.2.2.1 (Or.inl hjc)
        have i1 : ¬ ((j : Int) < (cnt : Int)) := by omega
        have hin : InM ⟨(v1 : Int), (v2 : Int), (v3 : Int), (v4 : Int), (v5 : Int), (v6 : Int), (v7 : Int), (v8 : Int), v9, (v10 : Int), v11, es⟩ Ad n11 cd Av j cv wr := ⟨HR.out.1.2.2.1.mono fun q hq => Nat.lt_of_lt_of_le hq.2.1 HR.out.2.1, ⟨HR.out.1.2.2.2.ents, HR.out.2.2.1.fit⟩, HI0.out⟩
        obtain ⟨d, hd⟩ : ∃ d, d = doneR (s, k) := ⟨_, rfl⟩
        obtain ⟨bm, hbm⟩ : ∃ bm, bm = mayM ⟨(v1 : Int), (v2 : Int), (v3 : Int), (v4 : Int), (v5 : Int), (v6 : Int), (v7 : Int), (v8 : Int), v9, (v10 : Int), v11, es⟩ := ⟨_, rfl⟩
        have hfin := HN.out.2.2.2.1
        rw [← hd, ← hbm] at hfin
        have HDD := Lib.hid (Done_s p s k d hd v' wr HR.out.1.1.rd)
        have HCK := Lib.hid fun kc hkc => Check_any ⟨(v1 : Int), (v2 : Int), (v3 : Int), (v4 : Int), (v5 : Int), (v6 : Int), (v7 : Int), (v8 : Int), v9, (v10 : Int), v11, es⟩ Ad n11 cd Av j cv wr (HS.out _ HR.out.1.1.bel) hin ⟨by have h1 := hes; have h2 := HN.out.2.2.1; simp only; omega, fun e he => by have := HR.out.2.2.2.1 e he; omega⟩ kc hkc
        rw [← hbm] at HCK
        have three : (d ≠ 0 ∧ m = zm ∧ kk = 3) ∨ (d = 0 ∧ bm = false ∧ m = zm ∧ kk = 3) ∨ (d = 0 ∧ bm = true ∧ m = ⟨(v1 : Int), (v2 : Int), (v3 : Int), (v4 : Int), (v5 : Int), (v6 : Int), (v7 : Int), (v8 : Int), v9, (v10 : Int), v11, es⟩ ∧ kk = 0) := by
          clear hbm hin HCK HDD hd
          by_cases h0 : d = 0
          · cases bm with
            | false => rw [if_neg (by simp)] at hfin; injection hfin with p1 p2; exact Or.inr (Or.inl ⟨h0, rfl, p1, p2⟩)
            | true => rw [if_pos (by simp [h0])] at hfin; injection hfin with p1 p2; exact Or.inr (Or.inr ⟨h0, rfl, p1, p2⟩)
          · rw [if_neg (by simp [h0])] at hfin; injection hfin with p1 p2; exact Or.inl ⟨h0, p1, p2⟩
        obtain ⟨y0, y1, y2, y3, y4, y5, y6, y7, y8, y9, y10, y11⟩ := cells12 HR.out.1.2.1
        have HI := Lib.hid hin
        have HJ := Lib.hid (And.intro hes hjc)
        clear hbm hd hfin hin hes hjc
        rcases three with ⟨h0, rfl, rfl⟩ | ⟨rfl, rfl, rfl, rfl⟩ | ⟨rfl, rfl, rfl, rfl⟩
        · rw [show ev d = .iface 60 (.int .i64 (d : Int)) from ev_ne h0] at HDD
          have TZ : N12 wr g0 (.int .i64 0) (.int .i64 0) (.int .i64 0) (.int .i64 0) (.int .i64 0) (.int .i64 0) (.int .i64 0) (.int .i64 0) (.bool false) (.int .i64 0) (.slice none 0 0) (.slice none 0 0) := HE.out.2.1.to (HR.out.1.1.bel.block g0 HE.out.2.1.lt)
          obtain ⟨z0, z1, z2, z3, z4, z5, z6, z7, z8, z9, z10, z11⟩ := cells12 TZ
          have f0 := frozen_own TZ 0; have f1 := frozen_own TZ 1; have f2 := frozen_own TZ 2; have f3 := frozen_own TZ 3; have f4 := frozen_own TZ 4; have f5 := frozen_own TZ 5; have f6 := frozen_own TZ 6; have f7 := frozen_own TZ 7; have f8 := frozen_own TZ 8; have f9 := frozen_own TZ 9; have f10 := frozen_own TZ 10; have f11 := frozen_own TZ 11
          go_wp2_with (go_at_call 31; go_must (refine HDD.out.mono ?_; rintro y w8 ⟨rfl, rfl⟩))
          obtain ⟨F, hF, hE, hbQ, hoth, hsF⟩ := put12 TZ (.int .i64 0) (.int .i64 0) (.int .i64 0) (.int .i64 0) (.int .i64 0) (.int .i64 0) (.int .i64 0) (.int .i64 0) (.bool false) (.int .i64 0) (.slice none 0 0) (.slice none 0 0)
          rw [← hF]
          clear hF z0 z1 z2 z3 z4 z5 z6 z7 z8 z9 z10 z11
          obtain ⟨z0, z1, z2, z3, z4, z5, z6, z7, z8, z9, z10, z11⟩ := cells12 hE
          have hgw := HW.out.2
          have hnd : nd = 0 := HN.out.2.2.2.2.1
          have hne : ne = 0 := HN.out.2.2.2.2.2
          subst hnd
          subst hne
          exact bodyPost_ret (v := .tuple #[.agg #[.int .i64 0, .int .i64 0, .int .i64 0, .int .i64 0, .int .i64 0, .int .i64 0, .int .i64 0, .int .i64 0, .bool false, .int .i64 0, .slice none 0 0, .slice none 0 0], .iface 60 (.int .i64 3)]) (by simp [results, Tryz.results11, go_sem, z0, z1, z2, z3, z4, z5, z6, z7, z8, z9, z10, z11]) rfl ⟨none, 0, none, 0, rfl, ⟨SlT.nil_ _ _, ⟨[], RowT.nil_ _ _ _, fun j h => by simp [zm] at h⟩, fun e he => by simp [zm] at he, by unfold zm inI; decide⟩, (HE.out.1.trans (HR.out.1.1.bel.mono HE.out.1.size)).trans (hbQ _ (by omega))⟩
        · rw [show ev 0 = .nilIface from rfl] at HDD
          have HC1 := Lib.hid (HCK.out 1 (by simp))
          rw [er_ne (by decide)] at HC1
          clear HCK
          go_wp2_with (first
            | (go_at_call 31; go_must (refine HDD.out.mono ?_; rintro y w8 ⟨rfl, rfl⟩))
            | (go_at_call 13; go_must (refine HC1.out.mono ?_; rintro y w9 ⟨rfl, hb⟩; have TZ : N12 w9 g0 (.int .i64 0) (.int .i64 0) (.int .i64 0) (.int .i64 0) (.int .i64 0) (.int .i64 0) (.int .i64 0) (.int .i64 0) (.bool false) (.int .i64 0) (.slice none 0 0) (.slice none 0 0) := (HE.out.2.1.to (HR.out.1.1.bel.block g0 HE.out.2.1.lt)).to (hb.block g0 (Nat.lt_of_lt_of_le HE.out.2.1.lt HR.out.1.1.bel.size)); obtain ⟨z0, z1, z2, z3, z4, z5, z6, z7, z8, z9, z10, z11⟩ := cells12 TZ; have f0 := frozen_own TZ 0; have f1 := frozen_own TZ 1; have f2 := frozen_own TZ 2; have f3 := frozen_own TZ 3; have f4 := frozen_own TZ 4; have f5 := frozen_own TZ 5; have f6 := frozen_own TZ 6; have f7 := frozen_own TZ 7; have f8 := frozen_own TZ 8; have f9 := frozen_own TZ 9; have f10 := frozen_own TZ 10; have f11 := frozen_own TZ 11; have H9 := Lib.hid (And.intro TZ (HR.out.1.1.bel.trans (hb.mono HR.out.1.1.bel.size))); clear hb TZ)))
          obtain ⟨F, hF, hE, hbQ, hoth, hsF⟩ := put12 H9.out.1 (.int .i64 0) (.int .i64 0) (.int .i64 0) (.int .i64 0) (.int .i64 0) (.int .i64 0) (.int .i64 0) (.int .i64 0) (.bool false) (.int .i64 0) (.slice none 0 0) (.slice none 0 0)
          rw [← hF]
          clear hF z0 z1 z2 z3 z4 z5 z6 z7 z8 z9 z10 z11
          obtain ⟨z0, z1, z2, z3, z4, z5, z6, z7, z8, z9, z10, z11⟩ := cells12 hE
          have hgw := HW.out.2
          have hnd : nd = 0 := HN.out.2.2.2.2.1
          have hne : ne = 0 := HN.out.2.2.2.2.2
          subst hnd
          subst hne
          exact bodyPost_ret (v := .tuple #[.agg #[.int .i64 0, .int .i64 0, .int .i64 0, .int .i64 0, .int .i64 0, .int .i64 0, .int .i64 0, .int .i64 0, .bool false, .int .i64 0, .slice none 0 0, .slice none 0 0], .iface 60 (.int .i64 3)]) (by simp [results, Tryz.results11, go_sem, z0, z1, z2, z3, z4, z5, z6, z7, z8, z9, z10, z11]) rfl ⟨none, 0, none, 0, rfl, ⟨SlT.nil_ _ _, ⟨[], RowT.nil_ _ _ _, fun j h => by simp [zm] at h⟩, fun e he => by simp [zm] at he, by unfold zm inI; decide⟩, (HE.out.1.trans (H9.out.2.mono HE.out.1.size)).trans (hbQ _ (by omega))⟩
        · rw [show ev 0 = .nilIface from rfl] at HDD
          have HC1 := Lib.hid (HCK.out 0 (by simp))
          rw [er_zero] at HC1
          clear HCK
          go_wp2_with (first
            | (go_at_call 31; go_must (refine HDD.out.mono ?_; rintro y w8 ⟨rfl, rfl⟩))
            | (go_at_call 13; go_must (refine HC1.out.mono ?_; rintro y w9 ⟨rfl, hb⟩; have TZ : N12 w9 g0 (.int .i64 0) (.int .i64 0) (.int .i64 0) (.int .i64 0) (.int .i64 0) (.int .i64 0) (.int .i64 0) (.int .i64 0) (.bool false) (.int .i64 0) (.slice none 0 0) (.slice none 0 0) := (HE.out.2.1.to (HR.out.1.1.bel.block g0 HE.out.2.1.lt)).to (hb.block g0 (Nat.lt_of_lt_of_le HE.out.2.1.lt HR.out.1.1.bel.size)); have TY := HR.out.1.2.1.to (hb.block gm HR.out.1.2.1.lt); clear y0 y1 y2 y3 y4 y5 y6 y7 y8 y9 y10 y11; obtain ⟨y0, y1, y2, y3, y4, y5, y6, y7, y8, y9, y10, y11⟩ := cells12 TY; obtain ⟨z0, z1, z2, z3, z4, z5, z6, z7, z8, z9, z10, z11⟩ := cells12 TZ; have f0 := frozen_own TZ 0; have f1 := frozen_own TZ 1; have f2 := frozen_own TZ 2; have f3 := frozen_own TZ 3; have f4 := frozen_own TZ 4; have f5 := frozen_own TZ 5; have f6 := frozen_own TZ 6; have f7 := frozen_own TZ 7; have f8 := frozen_own TZ 8; have f9 := frozen_own TZ 9; have f10 := frozen_own TZ 10; have f11 := frozen_own TZ 11; have H9 := Lib.hid (And.intro TZ (And.intro (HR.out.1.1.bel.trans (hb.mono HR.out.1.1.bel.size)) hb)); clear hb TZ TY)))
          obtain ⟨F, hF, hE, hbQ, hoth, hsF⟩ := put12 H9.out.1 (.int .i64 (v1 : Int)) (.int .i64 (v2 : Int)) (.int .i64 (v3 : Int)) (.int .i64 (v4 : Int)) (.int .i64 (v5 : Int)) (.int .i64 (v6 : Int)) (.int .i64 (v7 : Int)) (.int .i64 (v8 : Int)) (.bool v9) (.int .i64 (v10 : Int)) (.slice Ad n11 cd) (.slice Av j cv)
          rw [← hF]
          clear hF z0 z1 z2 z3 z4 z5 z6 z7 z8 z9 z10 z11
          obtain ⟨z0, z1, z2, z3, z4, z5, z6, z7, z8, z9, z10, z11⟩ := cells12 hE
          have hgw := HW.out.2
          have hgs := HE.out.2.2
          have hnd : n11 = nd := HN.out.1.trans HN.out.2.2.2.2.1.symm
          have hne : j = ne := HJ.out.1.symm.trans HN.out.2.2.2.2.2.symm
          subst hnd
          subst hne
          have hkeep : ∀ q, W0.heap.size ≤ q → q < wr.heap.size → F.heap[q]? = wr.heap[q]? := fun q h1 h2 => (hoth q (by omega)).trans (H9.out.2.2.block q h2)
          have hsz : wr.heap.size ≤ F.heap.size := by rw [hsF]; exact H9.out.2.2.size
          have hcb := HCB.out.1
          have h3s := H3.out.1.bel.size
          have hin : InT ⟨(v1 : Int), (v2 : Int), (v3 : Int), (v4 : Int), (v5 : Int), (v6 : Int), (v7 : Int), (v8 : Int), v9, (v10 : Int), v11, es⟩ Ad n11 cd Av j cv (fun q => w.heap.size ≤ q ∧ q < F.heap.size) F := ⟨(HR.out.1.2.2.1.kept fun q hq hq2 => hkeep q hq.1 hq2).mono fun q hq => ⟨Nat.le_trans HE.out.1.size hq.1, Nat.lt_of_lt_of_le hq.2.1 (Nat.le_trans HR.out.2.1 hsz)⟩,
            (HR.out.1.2.2.2.kept (w' := F) (fun q hq ho => hkeep q (by rcases ho with h3 | h3; (have h4 : CB ≤ q := h3; omega); (have h4 := (HR.out.1.2.2.2.lt q h3).1; omega)) hq) hsz).entsT _ (fun q hq hq2 => ⟨by have h4 : CB ≤ q := hq; have := HE.out.1.size; omega, hq2⟩) (fun q hq hq2 => ⟨by have := HE.out.1.size; omega, hq2⟩), HR.out.2.2.1.fit, HI0.out⟩
          exact bodyPost_ret (v := .tuple #[.agg #[.int .i64 (v1 : Int), .int .i64 (v2 : Int), .int .i64 (v3 : Int), .int .i64 (v4 : Int), .int .i64 (v5 : Int), .int .i64 (v6 : Int), .int .i64 (v7 : Int), .int .i64 (v8 : Int), .bool v9, .int .i64 (v10 : Int), .slice Ad n11 cd, .slice Av j cv], .nilIface]) (by simp [results, Tryz.results11, go_sem, z0, z1, z2, z3, z4, z5, z6, z7, z8, z9, z10, z11]) rfl ⟨Ad, cd, Av, cv, rfl, hin, (HE.out.1.trans (H9.out.2.1.mono HE.out.1.size)).trans (hbQ _ (by omega))⟩


end Go.Proofs.YtfblgkcipnkhaaaGreatDoor.pk
