import Derived.Test.YtncaefocijainaaGreatDoorG33
import Derived.Test.YtncaefocijainaaGreatDoorG27
import Derived.Test.YtncaefocijainaaGreatDoorG31
import Derived.Test.YtncaefocijainaaGreatDoorG28
import Derived.Test.YtncaefocijainaaGreatDoorG22
import Derived.Test.YtncaefocijainaaGreatDoorG32
import Derived.RegionTactic
namespace Go.Proofs.YtncaefocijainaaGreatDoor.pk
open Go Go.RowKit
set_option maxRecDepth 100000
section
theorem rUint_small {most : Nat} {s : List UInt8 × Nat} {r : (List UInt8 × Nat) × Nat} (h : rUint most s = r) (hm : most ≤ 1099511627776) : r.2 ≤ 1099511627776 := by
 have := rUint_le most s
 rw [h] at this
 omega
theorem rUint_short {most : Nat} {s : List UInt8 × Nat} {r : (List UInt8 × Nat) × Nat} (h : rUint most s = r) : r.1.1.length ≤ s.1.length := by
 by_cases h0 : (rUint most s).1.2 = 0
 · have h1 := (rUint_inv h0).2.1
   have h2 := congrArg List.length h1
   rw [List.length_append] at h2
   rw [← h]
   omega
 · subst h
   unfold rUint at h0 ⊢
   by_cases hk : s.2 = 0
   · rw [if_pos hk] at h0 ⊢
     rcases hr : rdUint most s.1 with ⟨k1, m, rest⟩
     rw [hr] at h0
     by_cases h1 : k1 = 0
     · simp [h1] at h0
     · simp [h1]
   · rw [if_neg hk]
     exact Nat.le_refl _
theorem rBytes_short {most : Int} {s : List UInt8 × Nat} {r : (List UInt8 × Nat) × List UInt8} (h : rBytes 98 most s = r) (hs : s.1.length ≤ 140737488355328) : r.1.1.length ≤ 140737488355328 ∧ r.2.length ≤ 140737488355328 := by
 by_cases h0 : (rBytes 98 most s).1.2 = 0
 · have h1 := (rBytes_inv h0).2.1
   have h2 := congrArg List.length h1
   rw [List.length_append, List.length_append] at h2
   rw [← h]
   omega
 · subst h
   unfold rBytes at h0 ⊢
   by_cases hk : s.2 = 0
   · rw [if_pos hk] at h0 ⊢
     rcases hr : rdBytes 98 most s.1 with ⟨k1, m, rest⟩
     rw [hr] at h0
     by_cases h1 : k1 = 0
     · simp [h1] at h0
     · simp [h1]; exact hs
   · rw [if_neg hk]
     simp; exact hs
theorem put4e {w : World} {b t : Nat} {u0 u1 u2 u3 : Value} (h : w.heap[b]? = some (.cells #[u0, u1, u2, u3] t (0, 0))) (v0 v1 v2 v3 : Value) :
   ∃ F, F = (((w.setCell ⟨b, 0, none⟩ v0).setCell ⟨b, 1, none⟩ v1).setCell ⟨b, 2, none⟩ v2).setCell ⟨b, 3, none⟩ v3 ∧ F.heap[b]? = some (.cells #[v0, v1, v2, v3] t (0, 0)) ∧ (∀ B, B ≤ b → Below B w F) ∧ (∀ k, k ≠ b → F.heap[k]? = w.heap[k]?) ∧ F.heap.size = w.heap.size :=
 ⟨_, rfl, put4_own h v0 v1 v2 v3, fun B hB => put4_below (Below.refl B w) hB, fun k hk => by rw [Below.heap_setCell _ _ _ _ hk, Below.heap_setCell _ _ _ _ hk, Below.heap_setCell _ _ _ _ hk, Below.heap_setCell _ _ _ _ hk], by simp only [World.size_setCell]⟩
set_option maxHeartbeats 8000000 in
theorem EDec_walk (A : Option Addr) (n c : Nat) (b : List UInt8) (w : World) (hs : StdP w) (h : Bys w (.slice A n c) b) (hn : n ≤ 140737488355328)
   (s1 : List UInt8) (k1 v1 : Nat) (h1 : rUint 1099511627776 (b, 0) = ((s1, k1), v1)) (s2 : List UInt8) (k2 v2 : Nat) (h2 : rUint 1099511627776 (s1, k1) = ((s2, k2), v2))
   (s3 : List UInt8) (k3 v3 : Nat) (h3 : rUint 2 (s2, k2) = ((s3, k3), v3)) (hl3 : s3.length ≤ 140737488355328) (s4 : List UInt8) (k4 : Nat) (v4 : List UInt8) (h4 : rBytes 98 4096 (s3, k3) = ((s4, k4), v4))
   (l1 : v1 ≤ 1099511627776) (l2 : v2 ≤ 1099511627776) (l3 : v3 ≤ 1099511627776) (l4 : v4.length ≤ 140737488355328)
   (e : En) (f : Nat) (hr : (e, f) = if doneR (s4, k4) ≠ 0 ∨ fitM ⟨(v1 : Int), (v2 : Int), (v3 : Int), v4⟩ = false then (⟨0, 0, 0, []⟩, 3) else (⟨(v1 : Int), (v2 : Int), (v3 : Int), v4⟩, 0)) (m : Nat) (hm : m = e.data.length) :
   Calls Tryz.prog 130 #[.slice A n c] w fun y w' => ∃ A1 c1, y = .returned (.tuple #[.agg #[.int .i64 e.index, .int .i64 e.term, .int .i64 e.kind, .slice A1 m c1], er f]) ∧ SlT w' (fun q => w.heap.size ≤ q ∧ q < w'.heap.size) (.slice A1 m c1) e.data ∧ Below w.heap.size w w' := by
 obtain ⟨W0, g, hW0, hg, hb0, hz, hsz⟩ := one_box w (.cells #[.int .i64 0, .int .i64 0, .int .i64 0, .slice none 0 0] 151)
 have hln := h.len_
 have HW := jI (jA hW0 hg)
 have HE := jI (jA hb0 (jA hz hsz))
 have HS := jI (hs.more hb0)
 have C0 := jI (Read_any A n c b W0 W0.heap.size ((h.below hb0).sl_) (by omega))
 obtain ⟨nv, hnv⟩ : ∃ nv, nv = v4.length := ⟨_, rfl⟩
 have C1 := jI fun p v W hs h => Uint_s p 1099511627776 b 0 s1 k1 v1 h1 v W hs h
 have C2 := jI fun p v W hs h => Uint_s p 1099511627776 s1 k1 s2 k2 v2 h2 v W hs h
 have C3 := jI fun p v W hs h => Uint_s p 2 s2 k2 s3 k3 v3 h3 v W hs h
 have C4 := jI fun p v W hs h => Bytes_s p 4096 (by omega) s3 k3 hl3 s4 k4 v4 h4 nv hnv v W hs h
 obtain ⟨d, hd⟩ : ∃ d, d = doneR (s4, k4) := ⟨_, rfl⟩
 have C5 := jI fun p v W h => Done_s p s4 k4 d hd v W h
 obtain ⟨bf, hbf⟩ : ∃ bf, bf = fitM ⟨(v1 : Int), (v2 : Int), (v3 : Int), v4⟩ := ⟨_, rfl⟩
 have C6 := jI fun A c W => emay_any ⟨(v1 : Int), (v2 : Int), (v3 : Int), v4⟩ A nv c W hnv (by omega) bf hbf
 have wr1 := wrap_small l1
 have wr2 := wrap_small l2
 have wr3 := wrap_small l3
 have ww : ((1099511627776 : Nat) : Int) = 1099511627776 := rfl
 have w2 : ((2 : Nat) : Int) = 2 := rfl
 rw [ww] at C1 C2
 rw [w2] at C3
 have three : (d ≠ 0 ∧ e = ⟨0, 0, 0, []⟩ ∧ f = 3) ∨ (d = 0 ∧ bf = false ∧ e = ⟨0, 0, 0, []⟩ ∧ f = 3) ∨ (d = 0 ∧ bf = true ∧ e = ⟨(v1 : Int), (v2 : Int), (v3 : Int), v4⟩ ∧ f = 0) := by
   rw [← hd, ← hbf] at hr
   by_cases h0 : d = 0
   · cases bf with
     | false => rw [if_pos (Or.inr rfl)] at hr; injection hr with p1 p2; exact Or.inr (Or.inl ⟨h0, rfl, p1, p2⟩)
     | true => rw [if_neg (by simp [h0])] at hr; injection hr with p1 p2; exact Or.inr (Or.inr ⟨h0, rfl, p1, p2⟩)
   · rw [if_pos (Or.inl h0)] at hr; injection hr with p1 p2; exact Or.inl ⟨h0, p1, p2⟩
 have HM := jI (jA hm hnv)
 clear hW0 hg hb0 hz hsz hln h hn h1 h2 h3 h4 l1 l2 l3 l4 hr hd hbf hs hl3 hnv hm ww w2
 go_enter Tryz.func130, Tryz.ntmps130
 go_upto_region 1 with fail
 rw [← HW.out.1]
 try rw [← HW.out.2]
 go_upto_region 2 with (go_at_call 113; go_must (refine C0.out.mono ?_; rintro y w1 ⟨p, v, rfl, hp, hr, hb⟩; have H1 := jI (jA hr hb); have HP := jI hp; clear hr hb hp))
 go_upto_region 3 with (first
   | (go_at_call 128; go_must (refine (C4.out p _ _ (HS.out.more H4.out.2) H4.out.1).mono ?_; rintro y w5 ⟨v5, A5, c5, rfl, hS5, hr, hg⟩; have H5 := jI (jA hr (jA (Below.rd H4.out.2 hg (Nat.le_refl _) HP.out) (hS5.mono (T' := fun q => W0.heap.size ≤ q ∧ q < w5.heap.size) fun q hq => ⟨Nat.le_trans H4.out.2.size hq.1, hq.2⟩))); clear hr hg hS5))
   | (go_at_call 126; refine (C3.out p _ _ (HS.out.more H3.out.2) H3.out.1).mono ?_; rintro y w4 ⟨v4', rfl, hr, hg⟩; have H4 := jI (jA hr (Below.rd H3.out.2 hg (Nat.le_refl _) HP.out)); clear hr hg)
   | (go_at_call 126; refine (C2.out p _ _ (HS.out.more H2.out.2) H2.out.1).mono ?_; rintro y w3 ⟨v3', rfl, hr, hg⟩; have H3 := jI (jA hr (Below.rd H2.out.2 hg (Nat.le_refl _) HP.out)); clear hr hg)
   | (go_at_call 126; refine (C1.out p _ _ (HS.out.more H1.out.2) H1.out.1).mono ?_; rintro y w2 ⟨v2', rfl, hr, hg⟩; have H2 := jI (jA hr (Below.rd H1.out.2 hg (Nat.le_refl _) HP.out)); clear hr hg))
 obtain ⟨W5, g5, hW5, hg5, hb5, hq5, hsz5⟩ := one_box w5 (.cells #[.int .i64 (v1 : Int), .int .i64 (v2 : Int), .int .i64 (v3 : Int), .slice A5 nv c5] 151)
 rw [← hW5, ← hg5]
 have HB5 : Below W0.heap.size W0 W5 := H5.out.2.1.trans (hb5.mono H5.out.2.1.size)
 have R5 := H5.out.1.below hb5 H5.out.1.lt
 have S5 : SlT W5 (fun q => W0.heap.size ≤ q ∧ q < W5.heap.size) (.slice A5 nv c5) v4 := (H5.out.2.2.kept fun k hk _ => hb5.block k hk.2).mono fun k hk => ⟨hk.1, Nat.lt_of_lt_of_le hk.2 hb5.size⟩
 have Q0 := (HB5.block g (by have := HE.out.2.2; omega)).trans HE.out.2.1
 obtain ⟨z0, z1, z2, z3⟩ := cells4 Q0
 obtain ⟨y0, y1, y2, y3⟩ := cells4 hq5
 have f0 := frozen_own Q0 0
 have f1 := frozen_own Q0 1
 have f2 := frozen_own Q0 2
 have f3 := frozen_own Q0 3
 have H6 := jI (jA HB5 (jA R5 (jA S5 (jA Q0 (jA hq5 hsz5)))))
 clear hW5 hg5 hb5 hq5 hsz5 HB5 R5 S5 Q0
 rcases three with ⟨h0, rfl, rfl⟩ | ⟨rfl, rfl, rfl, rfl⟩ | ⟨rfl, rfl, rfl, rfl⟩
 · rw [show ev d = .iface 69 (.int .i64 (d : Int)) from ev_ne h0] at C5
   have hm0 : m = 0 := HM.out.1
   subst hm0
   go_wp2_with (go_at_call 131; go_must (refine (C5.out p _ _ H6.out.2.1).mono ?_; rintro y w7 ⟨rfl, rfl⟩))
   have T := jA H6.out.2.2.2.1 (Below.refl w.heap.size W5)
   obtain ⟨F, hF, hE, hbQ, hoth, hsF⟩ := put4e T.1 (.int .i64 0) (.int .i64 0) (.int .i64 0) (.slice none 0 0)
   rw [← hF]
   clear hF z0 z1 z2 z3
   obtain ⟨z0, z1, z2, z3⟩ := cells4 hE
   have hgw := HW.out.2
   have hF0 : Below w.heap.size w F := (HE.out.1.trans (H6.out.1.mono HE.out.1.size)).trans (T.2.trans (hbQ _ (by omega)))
   exact bodyPost_ret (v := .tuple #[.agg #[.int .i64 0, .int .i64 0, .int .i64 0, .slice none 0 0], .iface 69 (.int .i64 3)]) (by simp [results, Tryz.results130, go_sem, z0, z1, z2, z3]) rfl ⟨none, 0, rfl, SlT.nil_ _ _, hF0⟩
 · rw [show ev 0 = .nilIface from rfl] at C5
   have hm0 : m = 0 := HM.out.1
   subst hm0
   go_wp2_with (first
     | (go_at_call 131; go_must (refine (C5.out p _ _ H6.out.2.1).mono ?_; rintro y w7 ⟨rfl, rfl⟩))
     | (go_at_call 139; go_must (refine (C6.out A5 c5 _).mono ?_; rintro y w8 ⟨rfl, hb⟩; have Q := (hb.block g (by have := HE.out.2.2; have := H6.out.1.size; omega)).trans H6.out.2.2.2.1; clear z0 z1 z2 z3 f0 f1 f2 f3; obtain ⟨z0, z1, z2, z3⟩ := cells4 Q; have f0 := frozen_own Q 0; have f1 := frozen_own Q 1; have f2 := frozen_own Q 2; have f3 := frozen_own Q 3; have H8 := jI (jA Q hb); clear hb Q)))
   have T := jA H8.out.1 (H8.out.2.mono (show w.heap.size ≤ W5.heap.size from Nat.le_trans HE.out.1.size H6.out.1.size))
   obtain ⟨F, hF, hE, hbQ, hoth, hsF⟩ := put4e T.1 (.int .i64 0) (.int .i64 0) (.int .i64 0) (.slice none 0 0)
   rw [← hF]
   clear hF z0 z1 z2 z3
   obtain ⟨z0, z1, z2, z3⟩ := cells4 hE
   have hgw := HW.out.2
   have hF0 : Below w.heap.size w F := (HE.out.1.trans (H6.out.1.mono HE.out.1.size)).trans (T.2.trans (hbQ _ (by omega)))
   exact bodyPost_ret (v := .tuple #[.agg #[.int .i64 0, .int .i64 0, .int .i64 0, .slice none 0 0], .iface 69 (.int .i64 3)]) (by simp [results, Tryz.results130, go_sem, z0, z1, z2, z3]) rfl ⟨none, 0, rfl, SlT.nil_ _ _, hF0⟩
 · rw [show ev 0 = .nilIface from rfl] at C5
   go_wp2_with (first
     | (go_at_call 131; go_must (refine (C5.out p _ _ H6.out.2.1).mono ?_; rintro y w7 ⟨rfl, rfl⟩))
     | (go_at_call 139; go_must (refine (C6.out A5 c5 _).mono ?_; rintro y w8 ⟨rfl, hb⟩; have Q := (hb.block g (by have := HE.out.2.2; have := H6.out.1.size; omega)).trans H6.out.2.2.2.1; have Q5 := (hb.block g5 (by have := H6.out.2.2.2.2.2; omega)).trans H6.out.2.2.2.2.1; clear z0 z1 z2 z3 f0 f1 f2 f3 y0 y1 y2 y3; obtain ⟨z0, z1, z2, z3⟩ := cells4 Q; obtain ⟨y0, y1, y2, y3⟩ := cells4 Q5; have f0 := frozen_own Q 0; have f1 := frozen_own Q 1; have f2 := frozen_own Q 2; have f3 := frozen_own Q 3; have H8 := jI (jA Q hb); clear hb Q Q5)))
   have T := jA H8.out.1 (H8.out.2.mono (show w.heap.size ≤ W5.heap.size from Nat.le_trans HE.out.1.size H6.out.1.size))
   obtain ⟨F, hF, hE, hbQ, hoth, hsF⟩ := put4e T.1 (.int .i64 (v1 : Int)) (.int .i64 (v2 : Int)) (.int .i64 (v3 : Int)) (.slice A5 nv c5)
   rw [← hF]
   clear hF z0 z1 z2 z3
   obtain ⟨z0, z1, z2, z3⟩ := cells4 hE
   have hgw := HW.out.2
   have hF0 : Below w.heap.size w F := (HE.out.1.trans (H6.out.1.mono HE.out.1.size)).trans (T.2.trans (hbQ _ (by omega)))
   have hS : SlT F (fun q => w.heap.size ≤ q ∧ q < F.heap.size) (.slice A5 nv c5) v4 := (H6.out.2.2.1.kept fun k hk hk2 => (hoth k (by have := HE.out.2.2; have := hk.1; omega)).trans (H8.out.2.block k hk2)).mono fun k hk => ⟨Nat.le_trans HE.out.1.size hk.1, by rw [hsF]; exact Nat.lt_of_lt_of_le hk.2 H8.out.2.size⟩
   have hm0 : nv = m := HM.out.2.trans HM.out.1.symm
   subst hm0
   exact bodyPost_ret (v := .tuple #[.agg #[.int .i64 (v1 : Int), .int .i64 (v2 : Int), .int .i64 (v3 : Int), .slice A5 nv c5], .nilIface]) (by simp [results, Tryz.results130, go_sem, z0, z1, z2, z3]) rfl ⟨A5, c5, rfl, hS, hF0⟩
theorem EDec_any (A : Option Addr) (n c : Nat) (b : List UInt8) (w : World) (hs : StdP w) (h : Bys w (.slice A n c) b) (hn : n ≤ 140737488355328) (e : En) (f : Nat) (hr : decE b = (e, f)) (m : Nat) (hm : m = e.data.length) :
   Calls Tryz.prog 130 #[.slice A n c] w fun y w' => ∃ A1 c1, y = .returned (.tuple #[.agg #[.int .i64 e.index, .int .i64 e.term, .int .i64 e.kind, .slice A1 m c1], er f]) ∧ SlT w' (fun q => w.heap.size ≤ q ∧ q < w'.heap.size) (.slice A1 m c1) e.data ∧ Below w.heap.size w w' := by
 have hln := h.len_
 rcases h1 : rUint 1099511627776 (b, 0) with ⟨⟨s1, k1⟩, v1⟩
 rcases h2 : rUint 1099511627776 (s1, k1) with ⟨⟨s2, k2⟩, v2⟩
 rcases h3 : rUint 2 (s2, k2) with ⟨⟨s3, k3⟩, v3⟩
 rcases h4 : rBytes 98 4096 (s3, k3) with ⟨⟨s4, k4⟩, v4⟩
 have l1 := rUint_small h1 (by omega)
 have l2 := rUint_small h2 (by omega)
 have l3 := rUint_small h3 (by omega)
 have t1 := rUint_short h1
 have t2 := rUint_short h2
 have t3 := rUint_short h3
 have t4 := rBytes_short h4 (by simp only at t1 t2 t3 ⊢; omega)
 refine EDec_walk A n c b w hs h hn s1 k1 v1 h1 s2 k2 v2 h2 s3 k3 v3 h3 (by simp only at t1 t2 t3; omega) s4 k4 v4 h4 l1 l2 l3 t4.2 e f ?_ m hm
 rw [← hr]
 unfold decE takeE
 simp only [h1, h2, h3, h4]
 have hk : (v3 : Int) ≤ 2 := by have := rUint_le 2 (s2, k2); rw [h3] at this; simp only at this; omega
 by_cases hd : doneR (s4, k4) = 0
 · by_cases hf : fitM ⟨(v1 : Int), (v2 : Int), (v3 : Int), v4⟩ = true
   · have := fitM_iff.1 hf
     simp only at this
     rw [if_neg (by rintro (h0 | h0 | h0) <;> omega), if_neg (by rintro (h0 | h0); exact h0 hd; rw [hf] at h0; cases h0)]
   · have hf' := Bool.eq_false_iff.2 hf
     have h5 : v4.length ≤ 4096 := by
       have := (doneR_iff (s := (s4, k4))).1 hd
       have h6 := rBytes_inv (most := 4096) (letter := 98) (s := (s3, k3)) (by rw [h4]; exact this.1)
       rw [h4] at h6
       have := h6.2.2.1
       simp only at this
       omega
     have := fitM_false.1 hf'
     simp only at this l1 l2
     have hor : (v1 : Int) < 1 ∨ (v2 : Int) < 1 := by omega
     rw [if_pos (Or.inr hor), if_pos (Or.inr hf')]
 · rw [if_pos (Or.inl hd), if_pos (Or.inl hd)]
end
section
theorem takeC_snoc : ∀ (k : Nat) (s : List UInt8 × Nat), takeC (k + 1) s = ((rUint 64 (takeC k s).1).1, (takeC k s).2 ++ [((rUint 64 (takeC k s).1).2 : Int)])
 | 0, s => rfl
 | k + 1, s => by
   show ((takeC (k + 1) (rUint 64 s).1).1, ((rUint 64 s).2 : Int) :: (takeC (k + 1) (rUint 64 s).1).2) = _
   rw [takeC_snoc k]
   rfl
theorem takeC_len : ∀ (k : Nat) (s : List UInt8 × Nat), (takeC k s).2.length = k
 | 0, _ => rfl
 | k + 1, s => by show _ + 1 = _; rw [takeC_len k]
theorem takeC_le : ∀ (k : Nat) (s : List UInt8 × Nat), ∀ z ∈ (takeC k s).2, 0 ≤ z ∧ z ≤ 64
 | 0, _, z, hz => by cases hz
 | k + 1, s, z, hz => by
   rcases List.mem_cons.1 hz with rfl | hz
   · have := rUint_le 64 s; omega
   · exact takeC_le k _ z hz
set_option maxHeartbeats 4000000 in
theorem CDec_any (A : Option Addr) (n c : Nat) (b : List UInt8) (w : World) (hs : StdP w) (h : Bys w (.slice A n c) b) (hn : n ≤ 140737488355328) (r : List Int) (hr : r = decC b) (m : Nat) (hm : m = r.length) (f : Nat) (hf : f = if okD b = true then 0 else 3) :
   Calls Tryz.prog 127 #[.slice A n c] w fun y w' => ∃ A1 c1, y = .returned (.tuple #[.slice A1 m c1, er f]) ∧ w'.ownsRow w.heap.size 3 1 (.slice A1 m c1) m (r.map (Value.int .i64)) ∧ Below w.heap.size w w' := by
 have hln := h.len_
 rcases h1 : rCount 7 (b, 0) with ⟨⟨s1, k1⟩, v1⟩
 have C0 := jI (Read_any A n c b w w.heap.size h.sl_ (by omega))
 have C1 := jI fun p v W hs h => Count_s p 7 (by omega) b 0 s1 k1 v1 h1 v W hs h
 have hv1 : v1 ≤ 7 := by
   unfold rCount at h1
   simp only [if_true] at h1
   rcases hr3 : rdUint 7 b with ⟨k3, m3, rest3⟩
   rw [hr3] at h1
   simp only at h1
   split at h1
   · injection h1 with _ e; omega
   · split at h1
     · injection h1 with _ e; omega
     · rename_i hk _
       have hk3 : k3 = 0 := Classical.byContradiction hk
       subst hk3
       have := (rdUint_inv hr3).2.1
       injection h1 with _ e; omega
 have hraw : rawC b = takeC v1 (s1, k1) := by unfold rawC; rw [h1]
 obtain ⟨i0, hi, hz0, hz1, hz2⟩ := info_three info_int
 have HI := jI (jA hi (jA hz0 (jA hz1 hz2)))
 have HS := jI (jA hs (jA hraw (jA hr (jA hm (jA hf hv1)))))
 have iv : (v1 : Int) ≤ 7 := by omega
 rw [show ((7 : Nat) : Int) = 7 from rfl] at C1
 clear hs h hn hln h1 hr hm hf hraw hi hz0 hz1 hz2
 go_enter Tryz.func127, Tryz.ntmps127
 go_wp2_with (first
   | (go_at_call 113; go_must (refine C0.out.mono ?_; rintro y w1 ⟨p, v, rfl, hp, hr, hb⟩; have H1 := jI (jA hr hb); have HP := jI hp; clear hr hb hp))
   | (go_at_call 129; go_must (refine (C1.out p _ _ (HS.out.1.more H1.out.2) H1.out.1).mono ?_; rintro y w2 ⟨v2, rfl, hr, hg⟩; have H2 := jI (jA hr (Below.rd H1.out.2 hg (Nat.le_refl _) HP.out)); clear hr hg)))
 have hp2 : p < w2.heap.size := H2.out.1.lt
 have HP2 := jI hp2
 clear hp2
 go_loopw [5, 10] (fun vv ii wr => ∃ (j : Nat) (v' : Value), j ≤ v1 ∧ ii = .int .i64 (j : Int) ∧ Hid (RD wr p v' (takeC j (s1, k1)).1.1 (takeC j (s1, k1)).1.2 ∧ wr.ownsRow (p + 1) 3 1 vv j ((takeC j (s1, k1)).2.map (Value.int .i64)) ∧ Below w.heap.size w wr)) (fun _ ii _ => v1 - (intOf ii).toNat)
 case atStart => exact ⟨0, v2, Nat.zero_le _, rfl, jI ⟨H2.out.1, World.ownsRow_nil _ _ _ _, H2.out.2⟩⟩
 case round =>
   obtain ⟨j, v', hj, rfl, HR⟩ := hrel
   by_cases hlt : j < v1
   · have ii : (j : Int) < (v1 : Int) := by omega
     have hsn := takeC_snoc j (s1, k1)
     have hln := takeC_len j (s1, k1)
     obtain ⟨st, zs, hst⟩ : ∃ st zs, takeC j (s1, k1) = (st, zs) := ⟨_, _, rfl⟩
     rw [hst] at HR hsn hln
     obtain ⟨s2, k2⟩ := st
     rcases h3 : rUint 64 (s2, k2) with ⟨⟨s3, k3⟩, u⟩
     have hu := rUint_le 64 (s2, k2)
     simp only at hsn hln
     rw [h3] at hsn hu
     simp only at hsn hu
     have C3 := jI (Uint_s p 64 s2 k2 s3 k3 u h3 v' wr (HS.out.1.more HR.out.2.2) HR.out.1)
     rw [show ((64 : Nat) : Int) = 64 from rfl] at C3
     have ku : IntKind.i64.wrap (u : Int) = (u : Int) := wrap_small (by omega)
     have HX := jI (jA hsn (jA hln hu))
     clear hsn hln hst h3 hu
     go_wp2_with (first
       | (go_at_call 126; go_must (refine C3.out.mono ?_; rintro y w3 ⟨v3, rfl, hr, hg⟩; have H3 := jI (jA hr (jA (Below.rd HR.out.2.2 hg (Nat.le_refl _) HP.out) (HR.out.2.1.kept hg (Classical.byContradiction fun hn => by have h4 := (HR.out.2.1.lt p (by simpa using (not_or.1 hn).2)).1; omega)))); clear hr hg))
       | (at_builtin; go_must (refine wpList_append_row rfl _ _ 32 rfl (p + 1) 3 i0 _ 1 8 Tryz.underlying32 HI.out.1 HI.out.2.1 HI.out.2.2.1 HI.out.2.2.2 rfl (by omega) _ j (zs.map (Value.int .i64)) rfl (H3.out.2.2.alloc _) (fun _ => True) (some ⟨w3.heap.size, 0, none⟩) 1 1 [.int .i64 (u : Int)] rfl (RowT.lit (heap_alloc_new w3 _) (by rfl) (by omega)) ?c1 ?c2 ?c3 ?c4 ?c5)))
     case c1 => intro u hu; rw [List.mem_singleton.1 hu]; rfl
     case c2 => have := HS.out.2.2.2.2.2; simp only [maxLen]; omega
     case c3 => have := HS.out.2.2.2.2.2; omega
     case c4 => have := H3.out.1.lt; rw [World.size_alloc]; omega
     case c5 =>
       intro v4 w4 ho hg
       have hb4 : Below (p + 1) w3 w4 := ((Below.refl (p + 1) w3).alloc (by have := H3.out.1.lt; omega) (.cells #[.int .i64 (u : Int)] 3)).grown hg (by have := H3.out.1.lt; rw [World.size_alloc]; omega) (fun k hk => (H3.out.2.2.lt k hk).1)
       have ho' : w4.ownsRow (p + 1) 3 1 v4 (j + 1) ((zs ++ [(u : Int)]).map (Value.int .i64)) := by rw [List.map_append]; exact ho
       have HF := jI (jA (H3.out.1.below hb4 (Nat.lt_succ_self p)) (jA ho' (H3.out.2.1.trans (hb4.mono (by have := HP.out; omega)))))
       clear ho ho' hg hb4
       go_wp2_with fail
       go_roundw
       case rel => exact ⟨j + 1, v3, by omega, by go_num, jI ⟨by rw [HX.out.1]; exact HF.out.1, by rw [HX.out.1]; exact HF.out.2.1, HF.out.2.2⟩⟩
       case measure => simp [intOf]; omega
   · obtain rfl : j = v1 := by omega
     have ii : ¬ (j : Int) < (j : Int) := by omega
     have HX := HS.out.2
     rw [← HX.1] at HR
     have hle := takeC_le j (s1, k1)
     have hll := takeC_len j (s1, k1)
     rw [← HX.1] at hle hll
     obtain ⟨st, zs, hst⟩ : ∃ st zs, rawC b = (st, zs) := ⟨_, _, rfl⟩
     obtain ⟨s3, k3⟩ := st
     have hd0 : decC b = if okD b = true then zs else [] := by unfold decC; rw [hst]
     have hk0 : okD b = (decide (doneR (s3, k3) = 0) && mayC zs) := by unfold okD; rw [hst]
     rw [hst] at HR hle hll
     simp only at hle hll
     obtain ⟨d, hd⟩ : ∃ d, d = doneR (s3, k3) := ⟨_, rfl⟩
     rw [← hd] at hk0
     have C5 := jI (Done_s p s3 k3 d hd v' wr HR.out.1)
     have hro := HR.out.2.1
     have hin : ∀ z ∈ zs, inI z := fun z hz => by have := hle z hz; unfold inI; omega
     obtain ⟨A5, c5, hv5, hc5, hc6⟩ := (RowT.of_own hro (fun _ => True) fun _ _ => trivial).form
     subst hv5
     have hI : wr.ownsRow w.heap.size 3 1 (.slice A5 j c5) j (zs.map (Value.int .i64)) := own_base hro (by have := HP.out; omega)
     have hIn : Ints wr (.slice A5 j c5) zs := Ints.of_own (by rw [hll]; exact hI) hin
     obtain ⟨bm, hbm⟩ : ∃ bm, bm = mayC zs := ⟨_, rfl⟩
     have CM := jI (may_own A5 j c5 zs wr hIn bm hbm)
     rw [← hbm] at hk0
     have three : (d ≠ 0 ∧ r = [] ∧ f = 3) ∨ (d = 0 ∧ bm = false ∧ r = [] ∧ f = 3) ∨ (d = 0 ∧ bm = true ∧ r = zs ∧ f = 0) := by
       rw [HX.2.1, HX.2.2.2.1, hd0, hk0]
       by_cases h0 : d = 0
       · cases bm <;> simp [h0]
       · simp [h0]
     have HF := jI (jA hI (jA HR.out.2.2 (jA hll HX.2.2.1)))
     clear HX hle hll hst hd0 hk0 hd hro hin hc5 hc6 hI hIn hbm
     rcases three with ⟨h0, rfl, rfl⟩ | ⟨rfl, rfl, rfl, rfl⟩ | ⟨rfl, rfl, rfl, rfl⟩
     · rw [show ev d = .iface 69 (.int .i64 (d : Int)) from ev_ne h0] at C5
       have hm0 : m = 0 := HF.out.2.2.2
       subst hm0
       go_wp2_with (go_at_call 131; go_must (refine C5.out.mono ?_; rintro y w7 ⟨rfl, rfl⟩))
       go_ret2
       exact ⟨none, 0, rfl, World.ownsRow_nil _ _ _ _, HF.out.2.1⟩
     · rw [show ev 0 = .nilIface from rfl] at C5
       have hm0 : m = 0 := HF.out.2.2.2
       subst hm0
       go_wp2_with (first
         | (go_at_call 131; go_must (refine C5.out.mono ?_; rintro y w7 ⟨rfl, rfl⟩))
         | (go_at_call 38; go_must (refine CM.out.mono ?_; rintro y w7 ⟨rfl, rfl⟩)))
       go_ret2
       exact ⟨none, 0, rfl, World.ownsRow_nil _ _ _ _, HF.out.2.1⟩
     · rw [show ev 0 = .nilIface from rfl] at C5
       have hm0 : m = j := by rw [HF.out.2.2.2, HF.out.2.2.1]
       subst hm0
       go_wp2_with (first
         | (go_at_call 131; go_must (refine C5.out.mono ?_; rintro y w7 ⟨rfl, rfl⟩))
         | (go_at_call 38; go_must (refine CM.out.mono ?_; rintro y w7 ⟨rfl, rfl⟩)))
       go_ret2
       exact ⟨A5, c5, rfl, HF.out.1, HF.out.2.1⟩
end
section
theorem decE_kind (b : List UInt8) : (decE b).2 = 0 ∨ (decE b).2 = 3 := by
 unfold decE
 simp only
 split
 · exact Or.inr rfl
 · exact Or.inl rfl
end
end Go.Proofs.YtncaefocijainaaGreatDoor.pk
