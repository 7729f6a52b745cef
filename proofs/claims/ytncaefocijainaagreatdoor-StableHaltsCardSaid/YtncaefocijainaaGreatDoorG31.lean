import Derived.Test.YtncaefocijainaaGreatDoorG26
import Derived.Test.YtncaefocijainaaGreatDoorG30
namespace Go.Proofs.YtncaefocijainaaGreatDoor.pk
open Go Go.RowKit
set_option maxRecDepth 100000
section
theorem headK_ne {l : UInt8} {bs : List UInt8} (h : headK l bs ≠ 0) : ∀ e, hd l e bs = (headK l bs, 0, []) := by
 intro e
 cases bs with
 | nil => rfl
 | cons c r =>
   by_cases hc : c = l
   · simp [headK, hc] at h
   · rw [hd_cons, if_neg hc]; simp [headK, hc]
theorem headK_eq {l : UInt8} {bs : List UInt8} (h : headK l bs = 0) : ∃ r, bs = l :: r := by
 cases bs with
 | nil => simp [headK] at h
 | cons c r =>
   by_cases hc : c = l
   · exact ⟨r, by rw [hc]⟩
   · simp [headK, hc] at h
theorem ReadUint_any (A : Option Addr) (n c k : Nat) (most : Nat) (bs : List UInt8) (w : World) {B : Nat} (hB : B ≤ w.heap.size) (h : Sl w B (.slice A n c) bs) :
   Calls Tryz.prog 54 #[.agg #[.slice A n c, .int .i64 (k : Int)], .int .u64 (most : Int)] w fun x w' =>
     ∃ A' c', x = .returned (.tuple #[.agg #[.slice A' (rUint most (bs, k)).1.1.length c', .int .i64 ((rUint most (bs, k)).1.2 : Int)], .int .u64 ((rUint most (bs, k)).2 : Int)]) ∧ Sl w' B (.slice A' (rUint most (bs, k)).1.1.length c') (rUint most (bs, k)).1.1 ∧ Below w.heap.size w w' := by
 obtain ⟨hn, _, _⟩ := h.len
 by_cases hk : (if k = 0 then headK 110 bs else k) = 0
 · by_cases h0 : k = 0
   · subst h0
     rw [if_pos rfl] at hk
     obtain ⟨r, rfl⟩ := headK_eq hk
     rcases hr : scan 59 [] r with ⟨k1, m, rest⟩
     have hrd : rdUint most (110 :: r) = if k1 = 0 then (if most < m then (4, 0, []) else (0, m, rest)) else (k1, 0, []) := by
       unfold rdUint
       rw [hd_cons, if_pos rfl, hr]
       cases k1 with
       | zero => rfl
       | succ k => rfl
     by_cases hk1 : k1 = 0
     · subst hk1
       rw [if_pos rfl] at hrd
       by_cases hm : most < m
       · rw [if_pos hm] at hrd
         have e : rUint most (110 :: r, 0) = ((110 :: r, 4), 0) := by simp [rUint, hrd]
         rw [e]
         refine (ReadUint_dig A n c most r 0 m rest w hB h hr 4 (Or.inr ⟨rfl, hm, rfl⟩)).mono ?_
         rintro x w' ⟨rfl, hb⟩
         subst hn
         exact ⟨A, c, rfl, h.below (hb.mono hB), hb⟩
       · rw [if_neg hm] at hrd
         have e : rUint most (110 :: r, 0) = ((rest, 0), m) := by simp [rUint, hrd]
         rw [e]
         exact ReadUint_ok A n c most r m rest w hB h hr (by omega)
     · rw [if_neg hk1] at hrd
       have e : rUint most (110 :: r, 0) = ((110 :: r, k1), 0) := by simp [rUint, hrd, hk1]
       rw [e]
       refine (ReadUint_dig A n c most r k1 m rest w hB h hr k1 (Or.inl ⟨hk1, rfl⟩)).mono ?_
       rintro x w' ⟨rfl, hb⟩
       subst hn
       exact ⟨A, c, rfl, h.below (hb.mono hB), hb⟩
   · rw [if_neg h0] at hk
     exact absurd hk h0
 · have e : rUint most (bs, k) = ((bs, if k = 0 then headK 110 bs else k), 0) := by
     by_cases h0 : k = 0
     · subst h0
       rw [if_pos rfl] at hk ⊢
       have hh := headK_ne hk 59
       obtain ⟨j, hj⟩ : ∃ j, headK 110 bs = j + 1 := ⟨headK 110 bs - 1, by omega⟩
       rw [hj] at hh ⊢
       simp [rUint, rdUint, hh]
     · rw [if_neg h0]; simp [rUint, h0]
   rw [e]
   refine (ReadUint_err A n c k most bs _ w hB h rfl hk).mono ?_
   rintro x w' ⟨rfl, hb⟩
   subst hn
   exact ⟨A, c, rfl, h.below (hb.mono hB), hb⟩
theorem RefDone_s (A : Option Addr) (n c k : Nat) (bs : List UInt8) (hn : n = bs.length) (w : World) (d : Nat) (hd : d = doneR (bs, k)) :
   Calls Tryz.prog 59 #[.agg #[.slice A n c, .int .i64 (k : Int)]] w fun x w' => x = .returned (.int .i64 (d : Int)) ∧ Below w.heap.size w w' := by
 have h := RefDone_any A n c k w
 have e : (if k = 0 then (if n = 0 then 0 else 3) else k) = d := by
   rw [hd]
   unfold doneR
   by_cases h0 : k = 0
   · subst h0
     by_cases h1 : n = 0
     · rw [if_pos rfl, if_pos h1, if_neg (by rintro ⟨_, h⟩; simp only at h; omega)]
     · rw [if_pos rfl, if_neg h1, if_pos ⟨rfl, by simp only; omega⟩]
   · rw [if_neg h0, if_neg (by rintro ⟨h, _⟩; exact h0 h)]
 rw [e] at h
 exact h
theorem ReadUint_s (A : Option Addr) (n c k most : Nat) (bs : List UInt8) (w : World) (B : Nat) (hB : B ≤ w.heap.size) (h : Sl w B (.slice A n c) bs) (s1 : List UInt8) (k1 v n1 : Nat) (hr : rUint most (bs, k) = ((s1, k1), v)) (hn : n1 = s1.length) :
   Calls Tryz.prog 54 #[.agg #[.slice A n c, .int .i64 (k : Int)], .int .u64 (most : Int)] w fun x w' =>
     ∃ A' c', x = .returned (.tuple #[.agg #[.slice A' n1 c', .int .i64 (k1 : Int)], .int .u64 (v : Int)]) ∧ Sl w' B (.slice A' n1 c') s1 ∧ Below w.heap.size w w' := by
 have := ReadUint_any A n c k most bs w hB h
 rw [hr] at this
 subst hn
 exact this
end
section
theorem set4 {B : Nat} {a W : World} (h : Below B a W) (g : Nat) (hg : B ≤ g) (u v : Value) : Below B a ((((W.setCell ⟨g, 0, none⟩ u).setCell ⟨g, 1, none⟩ v).setCell ⟨g + 1, 0, none⟩ u).setCell ⟨g + 1, 1, none⟩ v) :=
 (((h.setCell (p := ⟨g, 0, none⟩) hg u).setCell (p := ⟨g, 1, none⟩) hg v).setCell (p := ⟨g + 1, 0, none⟩) (by simp only; omega) u).setCell (p := ⟨g + 1, 1, none⟩) (by simp only; omega) v
theorem box3 {B : Nat} {w w0 w1 : World} {g : Nat} {X0 X1 Y0 Y1 : Value} (u v : Value) (hg : B ≤ g) (hsz : g + 1 < w0.heap.size) (hb0 : Below B w w0) (hX : RB w0 g X0 X1) (hY : RB w0 (g + 1) Y0 Y1) (hb1 : Below w0.heap.size w0 w1) :
   ∃ W q, W = w1.alloc (Obj.cells #[u, v] 121) ∧ q = w1.heap.size ∧ g + 1 < q ∧ Below B w W ∧ RB W g X0 X1 ∧ RB W (g + 1) Y0 Y1 ∧ RB W q u v := by
 have hs1 := hb1.size
 have hbl := below_alloc w1 (Obj.cells #[u, v] 121)
 refine ⟨_, _, rfl, rfl, by omega, (hb0.trans (hb1.mono (Nat.le_trans (by omega) (Nat.le_refl _)))).trans (hbl.mono (by omega)), ?_, ?_, heap_alloc_new w1 _⟩
 · exact (hX.below hb1).below hbl
 · exact (hY.below hb1).below hbl
set_option maxHeartbeats 2000000 in
theorem ReadCount_s (A : Option Addr) (n c k most : Nat) (hmo : most ≤ 1000000) (bs : List UInt8) (w : World) (B : Nat) (hB : B ≤ w.heap.size) (h : Sl w B (.slice A n c) bs) (s1 : List UInt8) (k1 v n1 : Nat) (hr : rCount most (bs, k) = ((s1, k1), v)) (hn : n1 = s1.length) :
   Calls Tryz.prog 57 #[.agg #[.slice A n c, .int .i64 (k : Int)], .int .i64 (most : Int)] w fun x w' =>
     ∃ A' c', x = .returned (.tuple #[.agg #[.slice A' n1 c', .int .i64 (k1 : Int)], .int .i64 (v : Int)]) ∧ Sl w' B (.slice A' n1 c') s1 ∧ Below w.heap.size w w' := by
 obtain ⟨hnl, -, -⟩ := h.len
 obtain ⟨w0, hw0⟩ : ∃ w0, w0 = (w.alloc (Obj.cells #[Value.slice A n c, Value.int IntKind.i64 (k : Int)] 121)).alloc (Obj.cells #[Value.slice none 0 0, Value.int IntKind.i64 0] 121) := ⟨_, rfl⟩
 have hb0 : Below w.heap.size w w0 := by rw [hw0]; exact ((Below.refl _ _).alloc (Nat.le_refl _) _).alloc (by simp) _
 have hX : RB w0 w.heap.size (.slice A n c) (.int .i64 (k : Int)) := by rw [hw0]; exact heap_alloc2_old _ _ _
 have hY : RB w0 (w.heap.size + 1) (.slice none 0 0) (.int .i64 0) := by rw [hw0]; exact heap_alloc2_new _ _ _
 have hsz : w.heap.size + 1 < w0.heap.size := by rw [hw0]; simp
 rcases hu : rUint most (bs, k) with ⟨⟨t1, q1⟩, u⟩
 obtain ⟨nt, hnt⟩ : ∃ nt, nt = t1.length := ⟨_, rfl⟩
 have H := jI (ReadUint_s A n c k most bs w0 B (Nat.le_trans hB hb0.size) (h.below (hb0.mono hB)) t1 q1 u nt hu hnt)
 have hwm : IntKind.u64.wrap (most : Int) = (most : Int) := by rw [IntKind.wrap_u64]; omega
 have HK := jI (jA hb0 (jA hX (jA hY (jA hsz (jA hB h)))))
 have m0 : ¬ (most : Int) < 0 := by omega
 have hcase : (q1 ≠ 0 ∧ s1 = bs ∧ k1 = q1 ∧ v = 0 ∧ (k = 0 ∨ k = q1)) ∨ (q1 = 0 ∧ k = 0 ∧ nt < u ∧ s1 = bs ∧ k1 = 2 ∧ v = 0 ∧ u < 18446744073709551616) ∨ (q1 = 0 ∧ ¬ nt < u ∧ s1 = t1 ∧ k1 = 0 ∧ v = u ∧ u ≤ most) := by
   unfold rCount at hr
   by_cases hk : k = 0
   · subst hk
     unfold rUint at hu
     rw [if_pos rfl] at hr hu
     by_cases h1 : (rdUint most bs).1 = 0
     · rw [if_pos h1] at hu
       simp only [Prod.mk.injEq] at hu
       obtain ⟨⟨e1, e2⟩, e3⟩ := hu
       rw [if_neg (fun e => e h1)] at hr
       have e4 : (rdUint most (bs, 0).fst).snd.snd = t1 := e1
       have e5 : (rdUint most (bs, 0).fst).snd.fst = u := e3
       have e6 := (rdUint_inv (most := most) (l := bs) (n := u) (r := t1) (by rw [← e1, ← e3, ← h1])).2
       rw [e4, e5] at hr
       by_cases h2 : t1.length < u
       · rw [if_pos h2] at hr
         simp only [Prod.mk.injEq] at hr
         exact Or.inr (Or.inl ⟨e2.symm, rfl, by omega, hr.1.1.symm, hr.1.2.symm, hr.2.symm, e6.2⟩)
       · rw [if_neg h2] at hr
         simp only [Prod.mk.injEq] at hr
         exact Or.inr (Or.inr ⟨e2.symm, by omega, hr.1.1.symm, hr.1.2.symm, hr.2.symm, e6.1⟩)
     · rw [if_neg h1] at hu
       simp only [Prod.mk.injEq] at hu
       obtain ⟨⟨e1, e2⟩, e3⟩ := hu
       rw [if_pos h1] at hr
       simp only [Prod.mk.injEq] at hr
       exact Or.inl ⟨by rw [← e2]; exact h1, hr.1.1.symm, by rw [← hr.1.2]; exact e2, hr.2.symm, Or.inl rfl⟩
   · rw [if_neg hk] at hr
     unfold rUint at hu
     rw [if_neg hk] at hu
     simp only [Prod.mk.injEq] at hr hu
     exact Or.inl ⟨by rw [← hu.1.2]; exact hk, hr.1.1.symm, by rw [← hr.1.2]; exact hu.1.2, hr.2.symm, Or.inr hu.1.2⟩
 clear h hr hu hb0 hX hY hsz
 rcases hcase with ⟨c1, rfl, rfl, rfl, c2⟩ | ⟨rfl, rfl, c2, rfl, rfl, rfl, c3⟩ | ⟨rfl, c2, rfl, rfl, rfl, c3⟩
 · have hz : ((k1 : Int) != 0) = true := by simp; omega
   have HF := jI fun W => fail_any A n c k k1 W
   have hfe : (if k = 0 then k1 else k) = k1 := by
     rcases c2 with c2 | c2
     · rw [if_pos c2]
     · rw [c2]; split <;> rfl
   rw [hfe] at HF
   have HN := jI (jA hn hnl)
   clear c1 c2 hfe hn hnl hnt
   go_enter Tryz.func57, Tryz.ntmps57
   go_wp2_with fail
   rw [← hw0]
   refine H.out.mono ?_
   rintro x w1 ⟨A1, c1, rfl, hS, hb1⟩
   obtain ⟨W, q, hW, hq, hgq, hbW, hXW, hYW, hZW⟩ := box3 (.slice A1 nt c1) (.int .i64 (k1 : Int)) (Nat.le_refl _) HK.out.2.2.2.1 HK.out.1 HK.out.2.1 HK.out.2.2.1 hb1
   go_upto_region 4 with fail
   rw [← hW, ← hq]
   obtain ⟨x0, x1, xf0, xf1⟩ := hXW.facts
   obtain ⟨z0, z1, zf0, zf1⟩ := hZW.facts
   have HW := jI (jA hbW (jA hYW hW))
   clear hS hb1 hW hbW hXW hYW hZW hw0 hq hgq
   go_wp2_with (go_at_call 96; go_must (refine (HF.out _).mono ?_; rintro x w3 ⟨rfl, hb3⟩; obtain ⟨y0, y1, yf0, yf1⟩ := (HW.out.2.1.below hb3).facts; have HB3 := jI (HW.out.1.trans (hb3.mono HW.out.1.size)); clear hb3))
   have hbf := (HB3.out.setCell (p := ⟨w.heap.size + 1, 0, none⟩) (by simp) (.slice A n c)).setCell (p := ⟨w.heap.size + 1, 1, none⟩) (by simp) (.int .i64 (k1 : Int))
   have hn' := HN.out.1.trans HN.out.2.symm
   subst hn'
   exact bodyPost_ret (v := .tuple #[.agg #[.slice A n1 c, .int .i64 (k1 : Int)], .int .i64 0]) (by simp [results, Tryz.results57, go_sem, y0, y1]) rfl ⟨_, _, rfl, HK.out.2.2.2.2.2.below (hbf.mono HK.out.2.2.2.2.1), hbf⟩
 · have i1 : (nt : Int) < (u : Int) := by omega
   have hwu : IntKind.u64.wrap (nt : Int) = (nt : Int) := by rw [IntKind.wrap_u64]; omega
   have e0 : ((0 : Nat) : Int) = 0 := rfl
   rw [e0] at hw0 H HK
   have HF := jI fun W => fail_any A n c 0 2 W
   rw [if_pos rfl] at HF
   have HN := jI (jA hn hnl)
   clear c2 c3 hn hnl hnt hmo
   go_enter Tryz.func57, Tryz.ntmps57
   go_wp2_with fail
   rw [← hw0]
   refine H.out.mono ?_
   rintro x w1 ⟨A1, c1, rfl, hS, hb1⟩
   obtain ⟨W, q, hW, hq, hgq, hbW, hXW, hYW, hZW⟩ := box3 (.slice A1 nt c1) (.int .i64 0) (Nat.le_refl _) HK.out.2.2.2.1 HK.out.1 HK.out.2.1 HK.out.2.2.1 hb1
   go_upto_region 4 with fail
   rw [← hW, ← hq]
   obtain ⟨x0, x1, xf0, xf1⟩ := hXW.facts
   obtain ⟨z0, z1, zf0, zf1⟩ := hZW.facts
   have HW := jI (jA hbW (jA hYW hW))
   clear hS hb1 hW hbW hXW hYW hZW hw0 hq hgq
   go_wp2_with (go_at_call 96; go_must (refine (HF.out _).mono ?_; rintro x w3 ⟨rfl, hb3⟩; obtain ⟨y0, y1, yf0, yf1⟩ := (HW.out.2.1.below hb3).facts; have HB3 := jI (HW.out.1.trans (hb3.mono HW.out.1.size)); clear hb3))
   have hbf := (HB3.out.setCell (p := ⟨w.heap.size + 1, 0, none⟩) (by simp) (.slice A n c)).setCell (p := ⟨w.heap.size + 1, 1, none⟩) (by simp) (.int .i64 2)
   have hn' := HN.out.1.trans HN.out.2.symm
   subst hn'
   exact bodyPost_ret (v := .tuple #[.agg #[.slice A n1 c, .int .i64 2], .int .i64 0]) (by simp [results, Tryz.results57, go_sem, y0, y1]) rfl ⟨_, _, rfl, HK.out.2.2.2.2.2.below (hbf.mono HK.out.2.2.2.2.1), hbf⟩
 · have e0 : ((0 : Nat) : Int) = 0 := rfl
   have hn' : n1 = nt := by rw [hn, hnt]
   subst hn'
   have i1 : ¬ (n1 : Int) < (v : Int) := by omega
   have hwv : IntKind.i64.wrap (v : Int) = (v : Int) := IntWalk.i64_in _ (by omega)
   clear c2 c3 hn hnl hnt hmo
   go_enter Tryz.func57, Tryz.ntmps57
   go_wp2_with fail
   rw [← hw0]
   refine H.out.mono ?_
   rintro x w1 ⟨A1, c1, rfl, hS, hb1⟩
   obtain ⟨hl1, hl2, hl3⟩ := hS.len
   have hwu : IntKind.u64.wrap (n1 : Int) = (n1 : Int) := by rw [IntKind.wrap_u64]; omega
   clear hl1 hl2 hl3
   obtain ⟨W, q, hW, hq, hgq, hbW, hXW, hYW, hZW⟩ := box3 (.slice A1 n1 c1) (.int .i64 0) (Nat.le_refl _) HK.out.2.2.2.1 HK.out.1 HK.out.2.1 HK.out.2.2.1 hb1
   rw [e0]
   go_upto_region 4 with fail
   rw [← hW, ← hq]
   obtain ⟨y0, y1, yf0, yf1⟩ := hYW.facts
   obtain ⟨z0, z1, zf0, zf1⟩ := hZW.facts
   have hSW : Sl W B (.slice A1 n1 c1) s1 := by rw [hW]; exact hS.below (((below_alloc w1 _).mono (by have := hb1.size; have := HK.out.2.2.2.1; have := HK.out.2.2.2.2.1; omega)))
   have HW := jI (jA hbW hSW)
   clear hS hSW hb1 hW hbW hXW hYW hZW hw0 hq hgq
   go_wp2_with fail
   have hbf := (HW.out.1.setCell (p := ⟨w.heap.size + 1, 0, none⟩) (by simp) (.slice A1 n1 c1)).setCell (p := ⟨w.heap.size + 1, 1, none⟩) (by simp) (.int .i64 0)
   have hbg := ((Below.refl B W).setCell (p := ⟨w.heap.size + 1, 0, none⟩) (by have := HK.out.2.2.2.2.1; simp only; omega) (.slice A1 n1 c1)).setCell (p := ⟨w.heap.size + 1, 1, none⟩) (by have := HK.out.2.2.2.2.1; simp only; omega) (.int .i64 0)
   exact bodyPost_ret (v := .tuple #[.agg #[.slice A1 n1 c1, .int .i64 0], .int .i64 (v : Int)]) (by simp [results, Tryz.results57, go_sem, y0, y1]) rfl ⟨_, _, rfl, HW.out.2.below hbg, hbf⟩
end
section
set_option maxHeartbeats 2000000 in
theorem run_head (A : Option Addr) (n c k most : Nat) (hmo : most ≤ 2000000) (bs : List UInt8) (k1 : Nat) (w : World) {B : Nat} (hB : B ≤ w.heap.size) (h : Sl w B (.slice A n c) bs)
   (hk : (if k = 0 then headK 98 bs else k) = k1) (hk1 : k1 ≠ 0) :
   Calls Tryz.prog 97 #[.agg #[.slice A n c, .int .i64 (k : Int)], .int .u8 98, .int .i64 (most : Int)] w fun x w' => x = .returned (.tuple #[.agg #[.slice A n c, .int .i64 (k1 : Int)], .slice none 0 0]) ∧ Below w.heap.size w w' := by
 have hz : ((k1 : Int) != 0) = true := by simp; omega
 have m0 : ¬ (most : Int) < 0 := by omega
 have md : decide ((most : Int) < 0) = false := decide_eq_false m0
 obtain ⟨w0, hw0⟩ : ∃ w0, w0 = (w.alloc (Obj.cells #[Value.slice A n c, Value.int IntKind.i64 (k : Int)] 121)).alloc (Obj.cells #[Value.slice none 0 0, Value.int IntKind.i64 0] 121) := ⟨_, rfl⟩
 have hb0 : Below w.heap.size w w0 := by rw [hw0]; exact ((Below.refl _ _).alloc (Nat.le_refl _) _).alloc (by simp) _
 have hX : RB w0 w.heap.size (.slice A n c) (.int .i64 (k : Int)) := by rw [hw0]; exact heap_alloc2_old _ _ _
 have hY : RB w0 (w.heap.size + 1) (.slice none 0 0) (.int .i64 0) := by rw [hw0]; exact heap_alloc2_new _ _ _
 have H := jI (head_any A n c k 98 bs w0 (Nat.le_trans hB hb0.size) (h.below (hb0.mono hB)))
 rw [hk] at H
 clear h hmo
 by_cases hk0 : k = 0
 · subst hk0
   have e0 : ((0 : Nat) : Int) = 0 := rfl
   rw [e0] at hw0
   rw [e0] at H
   rw [e0]
   go_enter Tryz.func97, Tryz.ntmps97
   go_wp2_with fail
   rw [← hw0]
   refine H.out.mono ?_
   rintro x w1 ⟨rfl, hb1⟩
   obtain ⟨x0, x1, xf0, xf1⟩ := (hX.below hb1).facts
   obtain ⟨y0, y1, yf0, yf1⟩ := (hY.below hb1).facts
   have HB1 := jI (hb0.trans (hb1.mono hb0.size))
   clear hw0 hb0 hX hY hb1 hk hk1
   go_wp2
   exact bodyPost_ret (v := .tuple #[.agg #[.slice A n c, .int .i64 (k1 : Int)], .slice none 0 0]) (by simp [results, Tryz.results97, go_sem, y0, y1]) rfl ⟨rfl, set4 HB1.out w.heap.size (Nat.le_refl _) _ _⟩
 · have hkz : ((k : Int) == 0) = false := by simp; omega
   go_enter Tryz.func97, Tryz.ntmps97
   go_wp2_with fail
   rw [← hw0]
   refine H.out.mono ?_
   rintro x w1 ⟨rfl, hb1⟩
   obtain ⟨x0, x1, xf0, xf1⟩ := (hX.below hb1).facts
   obtain ⟨y0, y1, yf0, yf1⟩ := (hY.below hb1).facts
   have HB1 := jI (hb0.trans (hb1.mono hb0.size))
   clear hw0 hb0 hX hY hb1 hk hk1
   go_wp2
   exact bodyPost_ret (v := .tuple #[.agg #[.slice A n c, .int .i64 (k1 : Int)], .slice none 0 0]) (by simp [results, Tryz.results97, go_sem, y0, y1]) rfl ⟨rfl, set4 HB1.out w.heap.size (Nat.le_refl _) _ _⟩
theorem digits_at (A : Option Addr) (n c a : Nat) (e : UInt8) (bs : List UInt8) (w : World) {B : Nat} (h : Sl w B (.slice A n c) bs) (ha : a ≤ bs.length) (he : isDg e = false)
   (m : Nat) (rest : List UInt8) (hr : scan e [] (bs.drop a) = (0, m, rest)) (en : Nat) (hen : en = bs.length - rest.length) :
   (en ≤ bs.length ∧ rest = bs.drop en) ∧ Calls Tryz.prog 95 #[.slice A n c, .int .i64 (a : Int), .int .u8 (e.toNat : Int)] w fun x w' => x = .returned (.tuple #[.int .u64 (m : Int), .int .i64 (en : Int), .int .i64 0]) ∧ w' = w := by
 obtain ⟨ds, e1, -, -, -⟩ := scan_inv (bs.drop a) [] (by simp) hr
 have e2 : bs = bs.take a ++ (ds ++ [e]) ++ rest := by
   have := (List.take_append_drop a bs).symm
   rw [e1] at this
   rw [List.append_assoc, List.append_assoc]
   exact this
 obtain ⟨y, hy⟩ : ∃ y, y = bs.take a ++ (ds ++ [e]) := ⟨_, rfl⟩
 rw [← hy] at e2
 have hl := congrArg List.length e2
 rw [List.length_append] at hl
 have hdrop : rest = bs.drop en := by
   have h3 := congrArg (List.drop y.length) e2
   rw [List.drop_left] at h3
   rw [hen, show bs.length - rest.length = y.length by omega]
   exact h3.symm
 refine ⟨⟨by omega, hdrop⟩, (digits_any A n c a e bs w h ha he 0 m rest hr).mono ?_⟩
 rintro x w' ⟨en', rfl, hx, rfl⟩
 obtain ⟨h4, h5⟩ := hx rfl
 have h6 := congrArg List.length h5
 rw [List.length_drop] at h6
 have : en' = en := by omega
 rw [this]
 exact ⟨rfl, rfl⟩
set_option maxHeartbeats 4000000 in
theorem run_bad (A : Option Addr) (n c most : Nat) (hmo : most ≤ 2000000) (r : List UInt8) (k m : Nat) (rest : List UInt8) (w : World) {B : Nat} (hB : B ≤ w.heap.size) (h : Sl w B (.slice A n c) (98 :: r))
   (hr : scan 58 [] r = (k, m, rest)) (k2 : Nat) (hk : (k ≠ 0 ∧ k2 = k) ∨ (k = 0 ∧ most < m ∧ k2 = 2) ∨ (k = 0 ∧ ¬ most < m ∧ rest.length < m ∧ k2 = 12)) :
   Calls Tryz.prog 97 #[.agg #[.slice A n c, .int .i64 0], .int .u8 98, .int .i64 (most : Int)] w fun x w' => x = .returned (.tuple #[.agg #[.slice A n c, .int .i64 (k2 : Int)], .slice none 0 0]) ∧ Below w.heap.size w w' := by
 have m0 : ¬ (most : Int) < 0 := by omega
 have md : decide ((most : Int) < 0) = false := decide_eq_false m0
 have hmw : IntKind.u64.wrap (most : Int) = (most : Int) := by rw [IntKind.wrap_u64]; omega
 obtain ⟨hl1, hl2, hl3⟩ := h.len
 obtain ⟨w0, hw0⟩ : ∃ w0, w0 = (w.alloc (Obj.cells #[Value.slice A n c, Value.int IntKind.i64 0] 121)).alloc (Obj.cells #[Value.slice none 0 0, Value.int IntKind.i64 0] 121) := ⟨_, rfl⟩
 have hb0 : Below w.heap.size w w0 := by rw [hw0]; exact ((Below.refl _ _).alloc (Nat.le_refl _) _).alloc (by simp) _
 have hX : RB w0 w.heap.size (.slice A n c) (.int .i64 0) := by rw [hw0]; exact heap_alloc2_old _ _ _
 have hY : RB w0 (w.heap.size + 1) (.slice none 0 0) (.int .i64 0) := by rw [hw0]; exact heap_alloc2_new _ _ _
 have H := jI (head_any A n c 0 98 (98 :: r) w0 (Nat.le_trans hB hb0.size) (h.below (hb0.mono hB)))
 rw [if_pos rfl, show headK 98 (98 :: r) = 0 from rfl] at H
 have HS := jI h
 have i63 : (n : Int) ≤ 9223372036854775807 := by omega
 have HL := jI hl1
 clear h hl1 hl2 hl3
 go_enter Tryz.func97, Tryz.ntmps97
 go_wp2_with fail
 rw [← hw0]
 refine H.out.mono ?_
 rintro x w1 ⟨rfl, hb1⟩
 have hX1 := hX.below hb1
 have hY1 := hY.below hb1
 obtain ⟨x0, x1, xf0, xf1⟩ := hX1.facts
 have hB1 : Below w.heap.size w w1 := hb0.trans (hb1.mono hb0.size)
 have hY2 := jI (hY1.other (k := w.heap.size) (by omega) (.slice A n c) (.int .i64 0))
 have HB2 := jI (((hB1.setCell (p := ⟨w.heap.size, 0, none⟩) (Nat.le_refl _) (.slice A n c)).setCell (p := ⟨w.heap.size, 1, none⟩) (Nat.le_refl _) (.int .i64 0)))
 have HS2 := jI (HS.out.below (HB2.out.mono hB))
 have HR := jI hr
 clear hw0 hb0 hX hY hb1 hX1 hY1 hB1 hr
 rcases hk with ⟨hk, rfl⟩ | ⟨rfl, hm, rfl⟩ | ⟨rfl, hm, hm2, rfl⟩
 · have hz : ((k2 : Int) != 0) = true := by simp; omega
   have hz' : ((k2 : Int) == 0) = false := by simp; omega
   clear hk
   go_wp2_with (first
     | (go_at_call 95; refine (digits_any A n c 1 58 (98 :: r) _ HS2.out (by simp) (by decide) k2 m rest (by rw [List.drop_one]; exact HR.out)).mono ?_; rintro x w2 ⟨en, rfl, hen, rfl⟩; clear hen)
     | (go_at_call 96; refine (fail_any _ _ _ 0 k2 _).mono ?_; rw [if_pos rfl]; rintro x w3 ⟨rfl, hb3⟩; obtain ⟨y0, y1, yf0, yf1⟩ := (hY2.out.below hb3).facts; have HB3 := jI (HB2.out.trans (hb3.mono HB2.out.size)); clear hb3))
   exact bodyPost_ret (v := .tuple #[.agg #[.slice A n c, .int .i64 (k2 : Int)], .slice none 0 0]) (by simp [results, Tryz.results97, go_sem, y0, y1]) rfl ⟨rfl, (HB3.out.setCell (by simp) _).setCell (by simp) _⟩
 · have hi : (most : Int) < (m : Int) := by omega
   clear hm
   go_wp2_with (first
     | (go_at_call 95; refine (digits_any A n c 1 58 (98 :: r) _ HS2.out (by simp) (by decide) 0 m rest (by rw [List.drop_one]; exact HR.out)).mono ?_; rintro x w2 ⟨en, rfl, hen, rfl⟩; clear hen)
     | (go_at_call 96; refine (fail_any _ _ _ 0 2 _).mono ?_; rw [if_pos rfl]; rintro x w3 ⟨rfl, hb3⟩; obtain ⟨y0, y1, yf0, yf1⟩ := (hY2.out.below hb3).facts; have HB3 := jI (HB2.out.trans (hb3.mono HB2.out.size)); clear hb3))
   exact bodyPost_ret (v := .tuple #[.agg #[.slice A n c, .int .i64 2], .slice none 0 0]) (by simp [results, Tryz.results97, go_sem, y0, y1]) rfl ⟨rfl, (HB3.out.setCell (by simp) _).setCell (by simp) _⟩
 · obtain ⟨en, hen⟩ : ∃ en, en = (98 :: r).length - rest.length := ⟨_, rfl⟩
   have hD := digits_at A n c 1 58 (98 :: r) _ HS2.out (by simp) (by decide) m rest (by rw [List.drop_one]; exact HR.out) en hen
   have hl5 := congrArg List.length hD.1.2
   rw [List.length_drop] at hl5
   have i1 : (en : Int) ≤ (n : Int) := by have := HL.out; have := hD.1.1; omega
   have hwu : IntKind.u64.wrap ((n : Int) - (en : Int)) = (rest.length : Int) := by rw [IntKind.wrap_u64]; have := HL.out; have := hD.1.1; omega
   have hi : ¬ (most : Int) < (m : Int) := by omega
   have hi2 : (rest.length : Int) < (m : Int) := by omega
   have HD := jI hD.2
   clear hm hm2 hen hD hl5
   go_wp2_with (first
     | (go_at_call 95; refine HD.out.mono ?_; rintro x w2 ⟨rfl, rfl⟩)
     | (go_at_call 96; refine (fail_any _ _ _ 0 12 _).mono ?_; rw [if_pos rfl]; rintro x w3 ⟨rfl, hb3⟩; obtain ⟨y0, y1, yf0, yf1⟩ := (hY2.out.below hb3).facts; have HB3 := jI (HB2.out.trans (hb3.mono HB2.out.size)); clear hb3))
   exact bodyPost_ret (v := .tuple #[.agg #[.slice A n c, .int .i64 12], .slice none 0 0]) (by simp [results, Tryz.results97, go_sem, y0, y1]) rfl ⟨rfl, (HB3.out.setCell (by simp) _).setCell (by simp) _⟩
end
section
theorem Sl.empty {w : World} {B : Nat} (A : Option Addr) {c : Nat} (hc : c ≤ 9223372036854775807) : Sl w B (.slice A 0 c) [] := ⟨A, c, rfl, Nat.zero_le _, hc, Or.inl rfl⟩
theorem Sl.behind {w : World} {B b off n c : Nat} {bs : List UInt8} (h : Sl w B (.slice (some ⟨b, off, none⟩) n c) bs) (en m : Nat) (h1 : en + m = bs.length) (hc : ¬ c = en) : Sl w B (.slice (some ⟨b, off + en, none⟩) m (c - en)) (bs.drop en) := by
 have h2 := h.cut (k := en) (by omega)
 have hn := h.len.1
 rw [if_neg hc, hn, show bs.length - en = m by omega] at h2
 have e : (some (⟨b, off, none⟩ : Addr)).map (fun x => x.add en) = some ⟨b, off + en, none⟩ := by rw [Option.map_some, Addr.add_lit]
 rw [e] at h2
 exact h2
theorem Sl.mid {w : World} {B b off n c : Nat} {bs : List UInt8} (h : Sl w B (.slice (some ⟨b, off, none⟩) n c) bs) (en m : Nat) (h1 : en + m ≤ bs.length) (hc : ¬ c = en) : Sl w B (.slice (some ⟨b, off + en, none⟩) m (c - en)) ((bs.drop en).take m) := by
 have h2 := h.behind en (bs.length - en) (by omega) hc
 exact h2.front (by rw [List.length_drop]; omega)
set_option maxHeartbeats 4000000 in
theorem run_ok (A : Option Addr) (n c most : Nat) (hmo : most ≤ 2000000) (r : List UInt8) (m : Nat) (rest : List UInt8) (w : World) {B : Nat} (hB : B ≤ w.heap.size) (h : Sl w B (.slice A n c) (98 :: r))
   (hr : scan 58 [] r = (0, m, rest)) (hm : m ≤ most) (hm2 : m ≤ rest.length) (n1 : Nat) (hn1 : n1 = rest.length - m) :
   Calls Tryz.prog 97 #[.agg #[.slice A n c, .int .i64 0], .int .u8 98, .int .i64 (most : Int)] w fun x w' => ∃ A' c' Ab cb, x = .returned (.tuple #[.agg #[.slice A' n1 c', .int .i64 0], .slice Ab m cb]) ∧ Sl w' B (.slice A' n1 c') (rest.drop m) ∧ Sl w' B (.slice Ab m cb) (rest.take m) ∧ Below w.heap.size w w' := by
 have m0 : ¬ (most : Int) < 0 := by omega
 have md : decide ((most : Int) < 0) = false := decide_eq_false m0
 have hmw : IntKind.u64.wrap (most : Int) = (most : Int) := by rw [IntKind.wrap_u64]; omega
 have hmi : IntKind.i64.wrap (m : Int) = (m : Int) := IntWalk.i64_in _ (by omega)
 obtain ⟨hl1, hl2, hl3⟩ := h.len
 obtain ⟨b, off, rfl, -⟩ := h.head
 obtain ⟨w0, hw0⟩ : ∃ w0, w0 = (w.alloc (Obj.cells #[Value.slice (some ⟨b, off, none⟩) n c, Value.int IntKind.i64 0] 121)).alloc (Obj.cells #[Value.slice none 0 0, Value.int IntKind.i64 0] 121) := ⟨_, rfl⟩
 have hb0 : Below w.heap.size w w0 := by rw [hw0]; exact ((Below.refl _ _).alloc (Nat.le_refl _) _).alloc (by simp) _
 have hX : RB w0 w.heap.size (.slice (some ⟨b, off, none⟩) n c) (.int .i64 0) := by rw [hw0]; exact heap_alloc2_old _ _ _
 have hY : RB w0 (w.heap.size + 1) (.slice none 0 0) (.int .i64 0) := by rw [hw0]; exact heap_alloc2_new _ _ _
 have H := jI (head_any (some ⟨b, off, none⟩) n c 0 98 (98 :: r) w0 (Nat.le_trans hB hb0.size) (h.below (hb0.mono hB)))
 rw [if_pos rfl, show headK 98 (98 :: r) = 0 from rfl] at H
 have HS := jI h
 have i63 : (n : Int) ≤ 9223372036854775807 := by omega
 have i64' : (n : Int) ≤ (c : Int) := by omega
 obtain ⟨en, hen⟩ : ∃ en, en = (98 :: r).length - rest.length := ⟨_, rfl⟩
 have hD := fun W (hW : Below w.heap.size w W) => digits_at (some ⟨b, off, none⟩) n c 1 58 (98 :: r) W (h.below (hW.mono hB)) (by simp) (by decide) m rest (by rw [List.drop_one]; exact hr) en hen
 have hd1 := (hD w (Below.refl _ _)).1
 have hl5 := congrArg List.length hd1.2
 rw [List.length_drop] at hl5
 have hn2 : n1 = n - (en + m) := by omega
 have hcut : ∃ A1 c1, (if c = en + m then (some ⟨b, off, none⟩ : Option Addr) else some ⟨b, off + (en + m), none⟩) = A1 ∧ c - (en + m) = c1 ∧ Sl w B (.slice A1 n1 c1) (rest.drop m) := by
   refine ⟨_, _, rfl, rfl, ?_⟩
   rw [hd1.2, List.drop_drop]
   by_cases hc : c = en + m
   · rw [if_pos hc, show n1 = 0 by omega, List.drop_eq_nil_of_le (by omega)]
     exact Sl.empty _ (by omega)
   · rw [if_neg hc]
     exact h.behind (en + m) n1 (by omega) hc
 have hmid : ∃ A2 c2, (if c = en then (some ⟨b, off, none⟩ : Option Addr) else some ⟨b, off + en, none⟩) = A2 ∧ c - en = c2 ∧ Sl w B (.slice A2 m c2) (rest.take m) := by
   refine ⟨_, _, rfl, rfl, ?_⟩
   rw [hd1.2]
   by_cases hc : c = en
   · rw [if_pos hc, show m = 0 by omega, List.take_zero]
     exact Sl.empty _ (by omega)
   · rw [if_neg hc]
     exact h.mid en m (by omega) hc
 obtain ⟨A1, c1, hA1, hc1, hS1⟩ := hcut
 obtain ⟨A2, c2, hA2, hc2, hS2⟩ := hmid
 have i1 : (en : Int) ≤ (n : Int) := by omega
 have i2 : (en : Int) + (m : Int) ≤ (n : Int) := by omega
 have hwu : IntKind.u64.wrap ((n : Int) - (en : Int)) = (rest.length : Int) := by rw [IntKind.wrap_u64]; omega
 have hi : ¬ (most : Int) < (m : Int) := by omega
 have hi2 : ¬ (rest.length : Int) < (m : Int) := by omega
 have HD := jI hD
 have HF := jI (jA hn2 (jA hS1 (jA hS2 hB)))
 clear h hl1 hl2 hl3 hm hm2 hen hD hd1 hl5 hn2 hn1 hr hS1 hS2
 go_enter Tryz.func97, Tryz.ntmps97
 go_wp2_with fail
 rw [← hw0]
 refine H.out.mono ?_
 rintro x w1 ⟨rfl, hb1⟩
 have hX1 := hX.below hb1
 have hY1 := hY.below hb1
 obtain ⟨x0, x1, xf0, xf1⟩ := hX1.facts
 obtain ⟨y0, y1, yf0, yf1⟩ := hY1.facts
 have hB1 : Below w.heap.size w w1 := hb0.trans (hb1.mono hb0.size)
 have HB2 := jI (((hB1.setCell (p := ⟨w.heap.size, 0, none⟩) (Nat.le_refl _) (.slice (some ⟨b, off, none⟩) n c)).setCell (p := ⟨w.heap.size, 1, none⟩) (Nat.le_refl _) (.int .i64 0)))
 clear hw0 hb0 hX hY hb1 hX1 hY1 hB1
 go_upto_region 14 with (go_at_call 95; refine (HD.out _ HB2.out).2.mono ?_; rintro x w2 ⟨rfl, rfl⟩)
 go_wp2_with fail
 all_goals
   try (have hce : c = en + m := by assumption
        subst hce)
   rw [← HF.out.1]
   have hbf := ((HB2.out.setCell (p := ⟨w.heap.size, 0, none⟩) (Nat.le_refl _) (.slice A1 n1 c1)).setCell (p := ⟨w.heap.size + 1, 0, none⟩) (by simp) (.slice A1 n1 c1)).setCell (p := ⟨w.heap.size + 1, 1, none⟩) (by simp) (.int .i64 0)
   exact bodyPost_ret (v := .tuple #[.agg #[.slice A1 n1 c1, .int .i64 0], .slice A2 m c2]) (by simp [results, Tryz.results97, go_sem, y0, y1]) rfl ⟨_, _, _, _, rfl, HF.out.2.1.below (hbf.mono HF.out.2.2.2), HF.out.2.2.1.below (hbf.mono HF.out.2.2.2), hbf⟩
theorem rdBytes_at {r rest : List UInt8} {q m : Nat} (hs : scan 58 [] r = (q, m, rest)) (most : Nat) : rdBytes 98 (most : Int) (98 :: r) = if q ≠ 0 then (q, [], []) else if most < m then (2, [], []) else if rest.length < m then (12, [], []) else (0, rest.take m, rest.drop m) := by
 have h1 : hd 98 58 (98 :: r) = (q, m, rest) := by rw [hd_cons, if_pos rfl, hs]
 have h0 : ¬ (most : Int) < 0 := by omega
 unfold rdBytes
 rw [if_neg h0, h1]
 cases q with
 | succ q => rw [if_pos (by omega)]
 | zero =>
   rw [if_neg (by omega)]
   simp only
   by_cases h2 : most < m
   · rw [if_pos h2, if_pos (by omega)]
   · rw [if_neg h2, if_neg (by omega)]
theorem rBytes_zero (l : UInt8) (most : Int) (bs : List UInt8) {e : Nat} {x y : List UInt8} (h : rdBytes l most bs = (e, x, y)) : rBytes l most (bs, 0) = if e = 0 then ((y, 0), x) else ((bs, e), []) := by
 unfold rBytes
 rw [if_pos rfl]
 simp only [h]
theorem run_s (A : Option Addr) (n c k most : Nat) (hmo : most ≤ 2000000) (bs : List UInt8) (w : World) (B : Nat) (hB : B ≤ w.heap.size) (h : Sl w B (.slice A n c) bs) (s1 x1 : List UInt8) (k1 n1 m1 : Nat) (hr : rBytes 98 (most : Int) (bs, k) = ((s1, k1), x1)) (hn : n1 = s1.length) (hm : m1 = x1.length) :
   Calls Tryz.prog 97 #[.agg #[.slice A n c, .int .i64 (k : Int)], .int .u8 98, .int .i64 (most : Int)] w fun x w' => ∃ A' c' Ab cb, x = .returned (.tuple #[.agg #[.slice A' n1 c', .int .i64 (k1 : Int)], .slice Ab m1 cb]) ∧ Sl w' B (.slice A' n1 c') s1 ∧ Sl w' B (.slice Ab m1 cb) x1 ∧ Below w.heap.size w w' := by
 obtain ⟨hnl, -, -⟩ := h.len
 have bad : ∀ q, s1 = bs → k1 = q → x1 = [] → (Calls Tryz.prog 97 #[.agg #[.slice A n c, .int .i64 (k : Int)], .int .u8 98, .int .i64 (most : Int)] w fun x w' => x = .returned (.tuple #[.agg #[.slice A n c, .int .i64 (q : Int)], .slice none 0 0]) ∧ Below w.heap.size w w') →
     Calls Tryz.prog 97 #[.agg #[.slice A n c, .int .i64 (k : Int)], .int .u8 98, .int .i64 (most : Int)] w fun x w' => ∃ A' c' Ab cb, x = .returned (.tuple #[.agg #[.slice A' n1 c', .int .i64 (k1 : Int)], .slice Ab m1 cb]) ∧ Sl w' B (.slice A' n1 c') s1 ∧ Sl w' B (.slice Ab m1 cb) x1 ∧ Below w.heap.size w w' := by
   intro q e1 e2 e3 hC
   refine hC.mono ?_
   rintro x w' ⟨e, hb⟩
   subst e1
   subst e2
   subst e3
   have e4 : n1 = n := by rw [hn, hnl]
   subst e4
   subst hm
   exact ⟨A, c, none, 0, e, h.below (hb.mono hB), Sl.nil_ _ _, hb⟩
 by_cases hk : (if k = 0 then headK 98 bs else k) = 0
 · by_cases h0 : k = 0
   · subst h0
     rw [if_pos rfl] at hk
     obtain ⟨r, rfl⟩ := headK_eq hk
     rcases hs : scan 58 [] r with ⟨q, m, rest⟩
     have hd := rdBytes_at hs most
     by_cases hq : q = 0
     · subst hq
       rw [if_neg (by simp)] at hd
       by_cases h1 : most < m
       · rw [if_pos h1] at hd
         rw [rBytes_zero 98 most _ hd, if_neg (by simp)] at hr
         simp only [Prod.mk.injEq] at hr
         exact bad 2 hr.1.1.symm hr.1.2.symm hr.2.symm (run_bad A n c most hmo r 0 m rest w hB h hs 2 (Or.inr (Or.inl ⟨rfl, h1, rfl⟩)))
       · rw [if_neg h1] at hd
         by_cases h2 : rest.length < m
         · rw [if_pos h2] at hd
           rw [rBytes_zero 98 most _ hd, if_neg (by simp)] at hr
           simp only [Prod.mk.injEq] at hr
           exact bad 12 hr.1.1.symm hr.1.2.symm hr.2.symm (run_bad A n c most hmo r 0 m rest w hB h hs 12 (Or.inr (Or.inr ⟨rfl, h1, h2, rfl⟩)))
         · rw [if_neg h2] at hd
           rw [rBytes_zero 98 most _ hd, if_pos rfl] at hr
           simp only [Prod.mk.injEq] at hr
           obtain ⟨⟨rfl, rfl⟩, rfl⟩ := hr
           have e1 : m1 = m := by rw [hm, List.length_take]; omega
           subst e1
           exact run_ok A n c most hmo r m1 rest w hB h hs (by omega) (by omega) n1 (by rw [hn, List.length_drop])
     · rw [if_pos hq] at hd
       rw [rBytes_zero 98 most _ hd, if_neg hq] at hr
       simp only [Prod.mk.injEq] at hr
       exact bad q hr.1.1.symm hr.1.2.symm hr.2.symm (run_bad A n c most hmo r q m rest w hB h hs q (Or.inl ⟨hq, rfl⟩))
   · rw [if_neg h0] at hk; exact absurd hk h0
 · have e : rBytes 98 (most : Int) (bs, k) = ((bs, if k = 0 then headK 98 bs else k), []) := by
     by_cases h0 : k = 0
     · subst h0
       rw [if_pos rfl] at hk ⊢
       have h1 := headK_ne hk 58
       have hd : rdBytes 98 (most : Int) bs = (headK 98 bs, [], []) := by
         unfold rdBytes
         rw [if_neg (show ¬ (most : Int) < 0 by omega), h1]
         rcases hq : headK 98 bs with _ | q
         · exact absurd hq hk
         · rfl
       rw [rBytes_zero 98 most _ hd, if_neg hk]
     · rw [if_neg h0]; unfold rBytes; rw [if_neg h0]
   rw [e] at hr
   simp only [Prod.mk.injEq] at hr
   exact bad _ hr.1.1.symm hr.1.2.symm hr.2.symm (run_head A n c k most hmo bs _ w hB h rfl hk)
set_option maxHeartbeats 1000000 in
theorem ReadBytes_s (A : Option Addr) (n c k most : Nat) (hmo : most ≤ 2000000) (bs : List UInt8) (w : World) (B : Nat) (hB : B ≤ w.heap.size) (h : Sl w B (.slice A n c) bs) (s1 x1 : List UInt8) (k1 n1 m1 : Nat) (hr : rBytes 98 (most : Int) (bs, k) = ((s1, k1), x1)) (hn : n1 = s1.length) (hm : m1 = x1.length) :
   Calls Tryz.prog 55 #[.agg #[.slice A n c, .int .i64 (k : Int)], .int .i64 (most : Int)] w fun x w' => ∃ A' c' Ab cb, x = .returned (.tuple #[.agg #[.slice A' n1 c', .int .i64 (k1 : Int)], .slice Ab m1 cb]) ∧ Sl w' B (.slice A' n1 c') s1 ∧ Sl w' B (.slice Ab m1 cb) x1 ∧ Below w.heap.size w w' := by
 obtain ⟨w0, hw0⟩ : ∃ w0, w0 = (w.alloc (Obj.cells #[Value.slice A n c, Value.int IntKind.i64 (k : Int)] 121)).alloc (Obj.cells #[Value.slice none 0 0, Value.int IntKind.i64 0] 121) := ⟨_, rfl⟩
 have hb0 : Below w.heap.size w w0 := by rw [hw0]; exact ((Below.refl _ _).alloc (Nat.le_refl _) _).alloc (by simp) _
 have hY : RB w0 (w.heap.size + 1) (.slice none 0 0) (.int .i64 0) := by rw [hw0]; exact heap_alloc2_new _ _ _
 have H := jI (run_s A n c k most hmo bs w0 B (Nat.le_trans hB hb0.size) (h.below (hb0.mono hB)) s1 x1 k1 n1 m1 hr hn hm)
 have HK := jI hB
 clear h hr hn hm hmo
 go_enter Tryz.func55, Tryz.ntmps55
 go_wp2_with fail
 rw [← hw0]
 refine H.out.mono ?_
 rintro x w1 ⟨A1, c1, A2, c2, rfl, hS1, hS2, hb1⟩
 obtain ⟨y0, y1, yf0, yf1⟩ := (hY.below hb1).facts
 have HB1 := jI (jA (hb0.trans (hb1.mono hb0.size)) (jA hS1 hS2))
 clear hw0 hb0 hY hb1 hS1 hS2
 go_wp2
 have hbf := (HB1.out.1.setCell (p := ⟨w.heap.size + 1, 0, none⟩) (by simp) (.slice A1 n1 c1)).setCell (p := ⟨w.heap.size + 1, 1, none⟩) (by simp) (.int .i64 (k1 : Int))
 have hbg := ((Below.refl B w1).setCell (p := ⟨w.heap.size + 1, 0, none⟩) (by have := HK.out; simp only; omega) (.slice A1 n1 c1)).setCell (p := ⟨w.heap.size + 1, 1, none⟩) (by have := HK.out; simp only; omega) (.int .i64 (k1 : Int))
 exact bodyPost_ret (v := .tuple #[.agg #[.slice A1 n1 c1, .int .i64 (k1 : Int)], .slice A2 m1 c2]) (by simp [results, Tryz.results55, go_sem, y0, y1]) rfl ⟨_, _, _, _, rfl, HB1.out.2.1.below hbg, HB1.out.2.2.below hbg, hbf⟩
end
section
theorem rUint_le (most : Nat) (s : List UInt8 × Nat) : (rUint most s).2 ≤ most := by
 unfold rUint
 by_cases h0 : s.2 = 0
 · rw [if_pos h0]
   by_cases h1 : (rdUint most s.1).1 = 0
   · rw [if_pos h1]
     exact (rdUint_inv (most := most) (l := s.1) (n := (rdUint most s.1).2.1) (r := (rdUint most s.1).2.2) (Prod.ext h1 rfl)).2.1
   · rw [if_neg h1]; exact Nat.zero_le _
 · rw [if_neg h0]; exact Nat.zero_le _
def E4 (w : World) (g : Nat) (a b c d : Value) : Prop := w.heap[g]? = some (.cells #[a, b, c, d] 96 (0, 0))
theorem E4.lt {w : World} {g : Nat} {a b c d : Value} (h : E4 w g a b c d) : g < w.heap.size := obj_lt h
theorem E4.below {w w' : World} {g : Nat} {a b c d : Value} (h : E4 w g a b c d) (hb : Below w.heap.size w w') : E4 w' g a b c d := (hb.block g h.lt).trans h
theorem E4.other {w : World} {g : Nat} {a b c d : Value} (h : E4 w g a b c d) (p : Addr) (hp : g ≠ p.block) (u : Value) : E4 (w.setCell p u) g a b c d := (Below.heap_setCell w p u g hp).trans h
theorem RB.other1 {w : World} {g : Nat} {x y : Value} (h : RB w g x y) (p : Addr) (hp : g ≠ p.block) (u : Value) : RB (w.setCell p u) g x y := (Below.heap_setCell w p u g hp).trans h
theorem E4.set0 {w : World} {g : Nat} {a b c d : Value} (h : E4 w g a b c d) (u : Value) : E4 (w.setCell ⟨g, 0, none⟩ u) g u b c d := by
 unfold E4 at h ⊢; simp [World.setCell, Array.getElem?_modify, h]
theorem E4.set1 {w : World} {g : Nat} {a b c d : Value} (h : E4 w g a b c d) (u : Value) : E4 (w.setCell ⟨g, 1, none⟩ u) g a u c d := by
 unfold E4 at h ⊢; simp [World.setCell, Array.getElem?_modify, h]
theorem E4.set2 {w : World} {g : Nat} {a b c d : Value} (h : E4 w g a b c d) (u : Value) : E4 (w.setCell ⟨g, 2, none⟩ u) g a b u d := by
 unfold E4 at h ⊢; simp [World.setCell, Array.getElem?_modify, h]
theorem E4.set3 {w : World} {g : Nat} {a b c d : Value} (h : E4 w g a b c d) (u : Value) : E4 (w.setCell ⟨g, 3, none⟩ u) g a b c u := by
 unfold E4 at h ⊢; simp [World.setCell, Array.getElem?_modify, h]
structure Tk (w : World) (g : Nat) (W : World) (x0 x1 a b c d : Value) : Prop where
 r : RB W g x0 x1
 y : RB W (g + 1) (.slice none 0 0) (.int .i64 0)
 z : E4 W (g + 2) (.int .i64 0) (.int .i64 0) (.int .i64 0) (.slice none 0 0)
 e : E4 W (g + 3) a b c d
 bel : Below g w W
section
variable {w W W' : World} {g : Nat} {x0 x1 a b c d : Value}
theorem Tk.call (h : Tk w g W x0 x1 a b c d) (hb : Below W.heap.size W W') : Tk w g W' x0 x1 a b c d :=
 ⟨h.r.below hb, h.y.below hb, h.z.below hb, h.e.below hb, h.bel.trans (hb.mono (Nat.le_of_lt h.r.lt))⟩
theorem Tk.setR (h : Tk w g W x0 x1 a b c d) (u v : Value) : Tk w g ((W.setCell ⟨g, 0, none⟩ u).setCell ⟨g, 1, none⟩ v) u v a b c d :=
 ⟨h.r.set u v, (h.y.other1 _ (by simp only; omega) _).other1 _ (by simp only; omega) _, (h.z.other _ (by simp only; omega) _).other _ (by simp only; omega) _, (h.e.other _ (by simp only; omega) _).other _ (by simp only; omega) _,
   (h.bel.setCell (p := ⟨g, 0, none⟩) (Nat.le_refl _) _).setCell (p := ⟨g, 1, none⟩) (Nat.le_refl _) _⟩
theorem Tk.set0 (h : Tk w g W x0 x1 a b c d) (u : Value) : Tk w g (W.setCell ⟨g + 3, 0, none⟩ u) x0 x1 u b c d :=
 ⟨h.r.other1 _ (by simp only; omega) _, h.y.other1 _ (by simp only; omega) _, h.z.other _ (by simp only; omega) _, h.e.set0 u, h.bel.setCell (p := ⟨g + 3, 0, none⟩) (by simp only; omega) _⟩
theorem Tk.set1 (h : Tk w g W x0 x1 a b c d) (u : Value) : Tk w g (W.setCell ⟨g + 3, 1, none⟩ u) x0 x1 a u c d :=
 ⟨h.r.other1 _ (by simp only; omega) _, h.y.other1 _ (by simp only; omega) _, h.z.other _ (by simp only; omega) _, h.e.set1 u, h.bel.setCell (p := ⟨g + 3, 1, none⟩) (by simp only; omega) _⟩
theorem Tk.set2 (h : Tk w g W x0 x1 a b c d) (u : Value) : Tk w g (W.setCell ⟨g + 3, 2, none⟩ u) x0 x1 a b u d :=
 ⟨h.r.other1 _ (by simp only; omega) _, h.y.other1 _ (by simp only; omega) _, h.z.other _ (by simp only; omega) _, h.e.set2 u, h.bel.setCell (p := ⟨g + 3, 2, none⟩) (by simp only; omega) _⟩
theorem Tk.set3 (h : Tk w g W x0 x1 a b c d) (u : Value) : Tk w g (W.setCell ⟨g + 3, 3, none⟩ u) x0 x1 a b c u :=
 ⟨h.r.other1 _ (by simp only; omega) _, h.y.other1 _ (by simp only; omega) _, h.z.other _ (by simp only; omega) _, h.e.set3 u, h.bel.setCell (p := ⟨g + 3, 3, none⟩) (by simp only; omega) _⟩
end
theorem tk_start (w : World) (u v : Value) : ∃ W, W = (((w.alloc (Obj.cells #[u, v] 121)).alloc (Obj.cells #[Value.slice none 0 0, Value.int IntKind.i64 0] 121)).alloc (Obj.cells #[Value.int .i64 0, Value.int .i64 0, Value.int .i64 0, Value.slice none 0 0] 96)).alloc (Obj.cells #[Value.int .i64 0, Value.int .i64 0, Value.int .i64 0, Value.slice none 0 0] 96) ∧
   Tk w w.heap.size W u v (.int .i64 0) (.int .i64 0) (.int .i64 0) (.slice none 0 0) := by
 refine ⟨_, rfl, ?_⟩
 obtain ⟨W1, h1⟩ : ∃ W1, W1 = w.alloc (Obj.cells #[u, v] 121) := ⟨_, rfl⟩
 obtain ⟨W2, h2⟩ : ∃ W2, W2 = W1.alloc (Obj.cells #[Value.slice none 0 0, Value.int IntKind.i64 0] 121) := ⟨_, rfl⟩
 obtain ⟨W3, h3⟩ : ∃ W3, W3 = W2.alloc (Obj.cells #[Value.int .i64 0, Value.int .i64 0, Value.int .i64 0, Value.slice none 0 0] 96) := ⟨_, rfl⟩
 rw [← h1, ← h2, ← h3]
 have b1 : Below w.heap.size w W1 := by rw [h1]; exact below_alloc _ _
 have b2 : Below W1.heap.size W1 W2 := by rw [h2]; exact below_alloc _ _
 have b3 : Below W2.heap.size W2 W3 := by rw [h3]; exact below_alloc _ _
 have b4 := below_alloc W3 (Obj.cells #[Value.int .i64 0, Value.int .i64 0, Value.int .i64 0, Value.slice none 0 0] 96)
 have s1 : W1.heap.size = w.heap.size + 1 := by rw [h1, World.size_alloc]
 have s2 : W2.heap.size = w.heap.size + 2 := by rw [h2, World.size_alloc, s1]
 have s3 : W3.heap.size = w.heap.size + 3 := by rw [h3, World.size_alloc, s2]
 have r1 : RB W1 w.heap.size u v := by rw [h1]; exact heap_alloc_new w _
 have y1 : RB W2 (w.heap.size + 1) (.slice none 0 0) (.int .i64 0) := by rw [h2, ← s1]; exact heap_alloc_new W1 _
 have z1 : E4 W3 (w.heap.size + 2) (.int .i64 0) (.int .i64 0) (.int .i64 0) (.slice none 0 0) := by rw [h3, ← s2]; exact heap_alloc_new W2 _
 have e1 : E4 (W3.alloc (Obj.cells #[Value.int .i64 0, Value.int .i64 0, Value.int .i64 0, Value.slice none 0 0] 96)) (w.heap.size + 3) (.int .i64 0) (.int .i64 0) (.int .i64 0) (.slice none 0 0) := by rw [← s3]; exact heap_alloc_new W3 _
 exact ⟨((r1.below b2).below b3).below b4, (y1.below b3).below b4, z1.below b4, e1, ((b1.trans (b2.mono (by omega))).trans (b3.mono (by omega))).trans (b4.mono (by omega))⟩
theorem RB.drew_ {w : World} {g : Nat} {x y : Value} (h : RB w g x y) : RB w.drew g x y := h
theorem E4.drew_ {w : World} {g : Nat} {a b c d : Value} (h : E4 w g a b c d) : E4 w.drew g a b c d := h
theorem take_end {w W : World} {g : Nat} {x0 x1 a b c d : Value} (T : Tk w g W x0 x1 a b c d) (p q e0 e1 e2 e3 : Value) : ∃ F, F = ((((((W.setCell ⟨g + 1, 0, none⟩ p).setCell ⟨g + 1, 1, none⟩ q).setCell ⟨g + 2, 0, none⟩ e0).setCell ⟨g + 2, 1, none⟩ e1).setCell ⟨g + 2, 2, none⟩ e2).setCell ⟨g + 2, 3, none⟩ e3).drew ∧
   RB F (g + 1) p q ∧ E4 F (g + 2) e0 e1 e2 e3 ∧ ∀ Q, Q ≤ g → Below Q W F := by
 have hne : g + 1 ≠ g + 2 := by omega
 have hne' : g + 2 ≠ g + 1 := by omega
 refine ⟨_, rfl, RB.drew_ ?_, E4.drew_ ?_, fun Q hQ => Below.drew ?_⟩
 · exact ((((T.y.set p q).other1 ⟨g + 2, 0, none⟩ hne e0).other1 ⟨g + 2, 1, none⟩ hne e1).other1 ⟨g + 2, 2, none⟩ hne e2).other1 ⟨g + 2, 3, none⟩ hne e3
 · have h1 := (T.z.other ⟨g + 1, 0, none⟩ hne' p).other ⟨g + 1, 1, none⟩ hne' q
   exact (((h1.set0 e0).set1 e1).set2 e2).set3 e3
 · have h1 : Q ≤ g + 1 := by omega
   have h2 : Q ≤ g + 2 := by omega
   exact ((((((Below.refl Q W).setCell (p := ⟨g + 1, 0, none⟩) h1 p).setCell (p := ⟨g + 1, 1, none⟩) h1 q).setCell (p := ⟨g + 2, 0, none⟩) h2 e0).setCell (p := ⟨g + 2, 1, none⟩) h2 e1).setCell (p := ⟨g + 2, 2, none⟩) h2 e2).setCell (p := ⟨g + 2, 3, none⟩) h2 e3
set_option maxHeartbeats 8000000 in
theorem Take_s (A : Option Addr) (n c k : Nat) (bs : List UInt8) (w : World) (B : Nat) (hB : B ≤ w.heap.size) (h : Sl w B (.slice A n c) bs) (s4 : List UInt8) (k4 n4 m : Nat) (en : En) (hr : takeE (bs, k) = ((s4, k4), en)) (hn : n4 = s4.length) (hm : m = en.data.length) :
   Calls Tryz.prog 98 #[.agg #[.slice A n c, .int .i64 (k : Int)]] w fun x w' => ∃ A' c' Ab cb, x = .returned (.tuple #[.agg #[.slice A' n4 c', .int .i64 (k4 : Int)], .agg #[.int .i64 en.index, .int .i64 en.term, .int .i64 en.kind, .slice Ab m cb]]) ∧
     Sl w' B (.slice A' n4 c') s4 ∧ Sl w' B (.slice Ab m cb) en.data ∧ Below w.heap.size w w' := by
 rcases h1 : rUint 1099511627776 (bs, k) with ⟨⟨s1, k1⟩, v1⟩
 rcases h2 : rUint 1099511627776 (s1, k1) with ⟨⟨s2, k2⟩, v2⟩
 rcases h3 : rUint 2 (s2, k2) with ⟨⟨s3, k3⟩, v3⟩
 rcases h4 : rBytes 98 4096 (s3, k3) with ⟨⟨s4', k4'⟩, x⟩
 have l1 : v1 ≤ 1099511627776 := by have := rUint_le 1099511627776 (bs, k); rw [h1] at this; exact this
 have l2 : v2 ≤ 1099511627776 := by have := rUint_le 1099511627776 (s1, k1); rw [h2] at this; exact this
 have l3 : v3 ≤ 2 := by have := rUint_le 2 (s2, k2); rw [h3] at this; exact this
 unfold takeE at hr
 simp only [h1, h2, h3, h4, Prod.mk.injEq] at hr
 obtain ⟨⟨rfl, rfl⟩, rfl⟩ := hr
 have q1 : IntKind.i64.wrap (v1 : Int) = (v1 : Int) := IntWalk.i64_in _ (by omega)
 have q2 : IntKind.i64.wrap (v2 : Int) = (v2 : Int) := IntWalk.i64_in _ (by omega)
 have q3 : IntKind.i64.wrap (v3 : Int) = (v3 : Int) := IntWalk.i64_in _ (by omega)
 obtain ⟨n1, hn1⟩ : ∃ n1, n1 = s1.length := ⟨_, rfl⟩
 obtain ⟨n2, hn2⟩ : ∃ n2, n2 = s2.length := ⟨_, rfl⟩
 obtain ⟨n3, hn3⟩ : ∃ n3, n3 = s3.length := ⟨_, rfl⟩
 obtain ⟨W0, hW0, T0⟩ := tk_start w (.slice A n c) (.int .i64 (k : Int))
 have C1 := jI fun W hB' hS => ReadUint_s A n c k 1099511627776 bs W B hB' hS s1 k1 v1 n1 h1 hn1
 have C2 := jI fun A c W hB' hS => ReadUint_s A n1 c k1 1099511627776 s1 W B hB' hS s2 k2 v2 n2 h2 hn2
 have C3 := jI fun A c W hB' hS => ReadUint_s A n2 c k2 2 s2 W B hB' hS s3 k3 v3 n3 h3 hn3
 have C4 := jI fun A c W hB' hS => ReadBytes_s A n3 c k3 4096 (by omega) s3 W B hB' hS s4' x k4' n4 m h4 hn hm
 have HB := jI hB
 have hg : B ≤ w.heap.size := hB
 obtain ⟨g, hge⟩ : ∃ g, g = w.heap.size := ⟨_, rfl⟩
 have HS := jI h
 have HG := jI hge
 have hres : Tryz.f98.results = #[.cell 2 121, .cell 3 96] := by kernel_rfl
 rw [← hge] at T0 hg
 have HT0 := jI (jA T0 hg)
 clear h h1 h2 h3 h4 l1 l2 l3 hn hm hn1 hn2 hn3 hB hge T0 hg
 go_enter Tryz.func98, Tryz.ntmps98
 go_upto_region 3 with fail
 rw [← hW0]
 simp only [Nat.add_assoc, Nat.reduceAdd]
 rw [← HG.out]
 clear hW0
 obtain ⟨x0, x1, xf0, xf1⟩ := HT0.out.1.r.facts
 go_upto_region 5 with (go_at_call 54; go_must (refine (C1.out _ (Nat.le_trans HT0.out.2 (Nat.le_of_lt HT0.out.1.r.lt)) (HS.out.below (HT0.out.1.bel.mono HT0.out.2))).mono ?_; rintro y w1 ⟨A1, c1, rfl, hS1, hb1⟩; have U1 := HT0.out.1.call hb1; obtain ⟨x0, x1, xf0, xf1⟩ := U1.r.facts; obtain ⟨e0, e1, e2, e3⟩ := cells4 U1.e; have f0 := frozen_own U1.e 0; have f1 := frozen_own U1.e 1; have f2 := frozen_own U1.e 2; have f3 := frozen_own U1.e 3; have HU1 := jI (jA U1 hS1); clear U1 hb1 hS1))
 clear x0 x1 xf0 xf1 e0 e1 e2 e3 f0 f1 f2 f3
 obtain ⟨W1, hW1⟩ : ∃ W, W = ((w1.setCell ⟨g, 0, none⟩ (.slice A1 n1 c1)).setCell ⟨g, 1, none⟩ (.int .i64 (k1 : Int))).setCell ⟨g + 3, 0, none⟩ (.int .i64 (v1 : Int)) := ⟨_, rfl⟩
 have T1 := (HU1.out.1.setR (.slice A1 n1 c1) (.int .i64 (k1 : Int))).set0 (.int .i64 (v1 : Int))
 have S1 := HU1.out.2.below (show Below B w1 (((w1.setCell ⟨g, 0, none⟩ (.slice A1 n1 c1)).setCell ⟨g, 1, none⟩ (.int .i64 (k1 : Int))).setCell ⟨g + 3, 0, none⟩ (.int .i64 (v1 : Int))) from (((Below.refl B w1).setCell (p := ⟨g, 0, none⟩) HT0.out.2 _).setCell (p := ⟨g, 1, none⟩) HT0.out.2 _).setCell (p := ⟨g + 3, 0, none⟩) (by have := HT0.out.2; simp only; omega) _)
 rw [← hW1] at T1 S1 ⊢
 have HT1 := jI (jA T1 S1)
 clear T1 S1 hW1
 obtain ⟨x0, x1, xf0, xf1⟩ := HT1.out.1.r.facts
 go_upto_region 7 with (go_at_call 54; go_must (refine (C2.out A1 c1 _ (Nat.le_trans HT0.out.2 (Nat.le_of_lt HT1.out.1.r.lt)) HT1.out.2).mono ?_; rintro y w2 ⟨A2, c2, rfl, hS2, hb2⟩; have U2 := HT1.out.1.call hb2; obtain ⟨x0, x1, xf0, xf1⟩ := U2.r.facts; obtain ⟨e0, e1, e2, e3⟩ := cells4 U2.e; have f0 := frozen_own U2.e 0; have f1 := frozen_own U2.e 1; have f2 := frozen_own U2.e 2; have f3 := frozen_own U2.e 3; have HU2 := jI (jA U2 hS2); clear U2 hb2 hS2))
 clear x0 x1 xf0 xf1 e0 e1 e2 e3 f0 f1 f2 f3
 obtain ⟨W2, hW2⟩ : ∃ W, W = ((w2.setCell ⟨g, 0, none⟩ (.slice A2 n2 c2)).setCell ⟨g, 1, none⟩ (.int .i64 (k2 : Int))).setCell ⟨g + 3, 1, none⟩ (.int .i64 (v2 : Int)) := ⟨_, rfl⟩
 have T2 := (HU2.out.1.setR (.slice A2 n2 c2) (.int .i64 (k2 : Int))).set1 (.int .i64 (v2 : Int))
 have S2 := HU2.out.2.below (show Below B w2 (((w2.setCell ⟨g, 0, none⟩ (.slice A2 n2 c2)).setCell ⟨g, 1, none⟩ (.int .i64 (k2 : Int))).setCell ⟨g + 3, 1, none⟩ (.int .i64 (v2 : Int))) from (((Below.refl B w2).setCell (p := ⟨g, 0, none⟩) HT0.out.2 _).setCell (p := ⟨g, 1, none⟩) HT0.out.2 _).setCell (p := ⟨g + 3, 1, none⟩) (by have := HT0.out.2; simp only; omega) _)
 rw [← hW2] at T2 S2 ⊢
 have HT2 := jI (jA T2 S2)
 clear T2 S2 hW2
 obtain ⟨x0, x1, xf0, xf1⟩ := HT2.out.1.r.facts
 go_upto_region 9 with (go_at_call 54; go_must (refine (C3.out A2 c2 _ (Nat.le_trans HT0.out.2 (Nat.le_of_lt HT2.out.1.r.lt)) HT2.out.2).mono ?_; rintro y w3 ⟨A3, c3, rfl, hS3, hb3⟩; have U3 := HT2.out.1.call hb3; obtain ⟨x0, x1, xf0, xf1⟩ := U3.r.facts; obtain ⟨e0, e1, e2, e3⟩ := cells4 U3.e; have f0 := frozen_own U3.e 0; have f1 := frozen_own U3.e 1; have f2 := frozen_own U3.e 2; have f3 := frozen_own U3.e 3; have HU3 := jI (jA U3 hS3); clear U3 hb3 hS3))
 clear x0 x1 xf0 xf1 e0 e1 e2 e3 f0 f1 f2 f3
 obtain ⟨W3, hW3⟩ : ∃ W, W = ((w3.setCell ⟨g, 0, none⟩ (.slice A3 n3 c3)).setCell ⟨g, 1, none⟩ (.int .i64 (k3 : Int))).setCell ⟨g + 3, 2, none⟩ (.int .i64 (v3 : Int)) := ⟨_, rfl⟩
 have T3 := (HU3.out.1.setR (.slice A3 n3 c3) (.int .i64 (k3 : Int))).set2 (.int .i64 (v3 : Int))
 have S3 := HU3.out.2.below (show Below B w3 (((w3.setCell ⟨g, 0, none⟩ (.slice A3 n3 c3)).setCell ⟨g, 1, none⟩ (.int .i64 (k3 : Int))).setCell ⟨g + 3, 2, none⟩ (.int .i64 (v3 : Int))) from (((Below.refl B w3).setCell (p := ⟨g, 0, none⟩) HT0.out.2 _).setCell (p := ⟨g, 1, none⟩) HT0.out.2 _).setCell (p := ⟨g + 3, 2, none⟩) (by have := HT0.out.2; simp only; omega) _)
 rw [← hW3] at T3 S3 ⊢
 have HT3 := jI (jA T3 S3)
 clear T3 S3 hW3
 obtain ⟨x0, x1, xf0, xf1⟩ := HT3.out.1.r.facts
 go_upto_region 10 with (go_at_call 55; go_must (refine (C4.out A3 c3 _ (Nat.le_trans HT0.out.2 (Nat.le_of_lt HT3.out.1.r.lt)) HT3.out.2).mono ?_; rintro y w4 ⟨A4, c4, Ab, cb, rfl, hS4, hX4, hb4⟩; have U4 := HT3.out.1.call hb4; obtain ⟨x0, x1, xf0, xf1⟩ := U4.r.facts; obtain ⟨e0, e1, e2, e3⟩ := cells4 U4.e; have f3 := frozen_own U4.e 3; have HU4 := jI (jA U4 (jA hS4 hX4)); clear U4 hb4 hS4 hX4))
 clear x0 x1 xf0 xf1 e0 e1 e2 e3 f3
 obtain ⟨W4, hW4⟩ : ∃ W, W = ((w4.setCell ⟨g, 0, none⟩ (.slice A4 n4 c4)).setCell ⟨g, 1, none⟩ (.int .i64 (k4' : Int))).setCell ⟨g + 3, 3, none⟩ (.slice Ab m cb) := ⟨_, rfl⟩
 have T4 := (HU4.out.1.setR (.slice A4 n4 c4) (.int .i64 (k4' : Int))).set3 (.slice Ab m cb)
 have bb : Below B w4 (((w4.setCell ⟨g, 0, none⟩ (.slice A4 n4 c4)).setCell ⟨g, 1, none⟩ (.int .i64 (k4' : Int))).setCell ⟨g + 3, 3, none⟩ (.slice Ab m cb)) := (((Below.refl B w4).setCell (p := ⟨g, 0, none⟩) HT0.out.2 _).setCell (p := ⟨g, 1, none⟩) HT0.out.2 _).setCell (p := ⟨g + 3, 3, none⟩) (by have := HT0.out.2; simp only; omega) _
 have S4 := HU4.out.2.1.below bb
 have X4 := HU4.out.2.2.below bb
 rw [← hW4] at T4 S4 X4 ⊢
 have HT4 := jI (jA T4 (jA S4 X4))
 clear T4 S4 X4 hW4 bb
 obtain ⟨x0, x1, xf0, xf1⟩ := HT4.out.1.r.facts
 obtain ⟨y0, y1, yf0, yf1⟩ := HT4.out.1.y.facts
 obtain ⟨z0, z1, z2, z3⟩ := cells4 HT4.out.1.z
 obtain ⟨e0, e1, e2, e3⟩ := cells4 HT4.out.1.e
 have zf0 := frozen_own HT4.out.1.z 0
 have zf1 := frozen_own HT4.out.1.z 1
 have zf2 := frozen_own HT4.out.1.z 2
 have zf3 := frozen_own HT4.out.1.z 3
 go_region
 go_wp2
 obtain ⟨F, hF, yF, zF, bF⟩ := take_end HT4.out.1 (.slice A4 n4 c4) (.int .i64 (k4' : Int)) (.int .i64 (v1 : Int)) (.int .i64 (v2 : Int)) (.int .i64 (v3 : Int)) (.slice Ab m cb)
 rw [← hF]
 clear hF
 clear y0 y1 z0 z1 z2 z3
 obtain ⟨y0, y1, -, -⟩ := yF.facts
 obtain ⟨z0, z1, z2, z3⟩ := cells4 zF
 have hb1 := bF B HT0.out.2
 have hb2 := HT4.out.1.bel.trans (bF g (Nat.le_refl _))
 have HF := jI (jA hb1 hb2)
 clear bF yF zF hb1 hb2
 refine bodyPost_ret (v := .tuple #[.agg #[.slice A4 n4 c4, .int .i64 (k4' : Int)], .agg #[.int .i64 (v1 : Int), .int .i64 (v2 : Int), .int .i64 (v3 : Int), .slice Ab m cb]]) ?_ rfl ⟨A4, c4, Ab, cb, rfl, HT4.out.2.1.below HF.out.1, HT4.out.2.2.below HF.out.1, by have := HF.out.2; rw [HG.out] at this; exact this⟩
 simp only [results, hres]
 go_simp
end
section
theorem dec_cases {b : List UInt8} {s4 : List UInt8} {k4 d k : Nat} {e e' : En} (ht : takeE (b, 0) = ((s4, k4), e)) (hd : d = doneR (s4, k4)) (hr : decE b = (e', k)) :
   (d ≠ 0 ∧ e' = ⟨0, 0, 0, []⟩ ∧ k = 3) ∨ (d = 0 ∧ e.index < 1 ∧ e' = ⟨0, 0, 0, []⟩ ∧ k = 3) ∨ (d = 0 ∧ ¬ e.index < 1 ∧ e.term < 1 ∧ e' = ⟨0, 0, 0, []⟩ ∧ k = 3) ∨ (d = 0 ∧ ¬ e.index < 1 ∧ ¬ e.term < 1 ∧ e' = e ∧ k = 0) := by
 unfold decE at hr
 simp only [ht, ← hd] at hr
 by_cases h0 : d = 0
 · by_cases h1 : e.index < 1
   · rw [if_pos (Or.inr (Or.inl h1))] at hr
     injection hr with a b
     exact Or.inr (Or.inl ⟨h0, h1, a.symm, b.symm⟩)
   · by_cases h2 : e.term < 1
     · rw [if_pos (Or.inr (Or.inr h2))] at hr
       injection hr with a b
       exact Or.inr (Or.inr (Or.inl ⟨h0, h1, h2, a.symm, b.symm⟩))
     · rw [if_neg (fun h => h.elim (fun h => h h0) fun h => h.elim h1 h2)] at hr
       injection hr with a b
       exact Or.inr (Or.inr (Or.inr ⟨h0, h1, h2, a.symm, b.symm⟩))
 · rw [if_pos (Or.inl h0)] at hr
   injection hr with a b
   exact Or.inl ⟨h0, a.symm, b.symm⟩
theorem dec_boxes {w w0 w1 : World} {g : Nat} {z0 z1 z2 z3 : Value} (u v a b c d : Value) (hw : g < w0.heap.size) (hz : E4 w0 g z0 z1 z2 z3) (hb0 : Below g w w0) (hb1 : Below w0.heap.size w0 w1) :
   ∃ W q, W = (w1.alloc (Obj.cells #[u, v] 121)).alloc (Obj.cells #[a, b, c, d] 96) ∧ q = w1.heap.size ∧ RB W q u v ∧ E4 W (q + 1) a b c d ∧ E4 W g z0 z1 z2 z3 ∧ Below g w W ∧ Below w1.heap.size w1 W := by
 have h1 := below_alloc w1 (Obj.cells #[u, v] 121)
 have h2 := below_alloc (w1.alloc (Obj.cells #[u, v] 121)) (Obj.cells #[a, b, c, d] 96)
 have hs1 := hb1.size
 have hsz : (w1.alloc (Obj.cells #[u, v] 121)).heap.size = w1.heap.size + 1 := World.size_alloc _ _
 have h12 : Below w1.heap.size w1 ((w1.alloc (Obj.cells #[u, v] 121)).alloc (Obj.cells #[a, b, c, d] 96)) := h1.trans (h2.mono (by omega))
 refine ⟨_, _, rfl, rfl, ?_, ?_, (hz.below hb1).below h12, (hb0.trans (hb1.mono (Nat.le_of_lt hw))).trans (h12.mono (by omega)), h12⟩
 · have r : RB (w1.alloc (Obj.cells #[u, v] 121)) w1.heap.size u v := heap_alloc_new w1 _
   exact r.below h2
 · unfold E4
   rw [← hsz]
   exact heap_alloc_new _ _
set_option maxHeartbeats 8000000 in
theorem RefDec_s (A : Option Addr) (n c : Nat) (b : List UInt8) (w : World) (B : Nat) (hB : B ≤ w.heap.size) (h : Sl w B (.slice A n c) b) (e : En) (k m : Nat) (hr : decE b = (e, k)) (hm : m = e.data.length) :
   Calls Tryz.prog 58 #[.slice A n c] w fun x w' => ∃ Ab cb, x = .returned (.tuple #[.agg #[.int .i64 e.index, .int .i64 e.term, .int .i64 e.kind, .slice Ab m cb], .int .i64 (k : Int)]) ∧ Sl w' B (.slice Ab m cb) e.data ∧ Below w.heap.size w w' := by
 rcases ht : takeE (b, 0) with ⟨⟨s4, k4⟩, e0⟩
 obtain ⟨n4, hn4⟩ : ∃ n4, n4 = s4.length := ⟨_, rfl⟩
 obtain ⟨m0, hm0⟩ : ∃ m0, m0 = e0.data.length := ⟨_, rfl⟩
 obtain ⟨d, hd⟩ : ∃ d, d = doneR (s4, k4) := ⟨_, rfl⟩
 obtain ⟨w0, g, hw0, hg, hb0, hz0, hsz⟩ := one_box w (.cells #[.int .i64 0, .int .i64 0, .int .i64 0, .slice none 0 0] 96)
 have hz : E4 w0 g (.int .i64 0) (.int .i64 0) (.int .i64 0) (.slice none 0 0) := hz0
 have HT := jI (Take_s A n c 0 b w0 B (Nat.le_trans hB hb0.size) (h.below (hb0.mono hB)) s4 k4 n4 m0 e0 ht hn4 hm0)
 have HD := jI fun A c W => RefDone_s A n4 c k4 s4 hn4 W d hd
 have HC := jI (dec_cases ht hd hr)
 have hgB : B ≤ g := by rw [hg]; exact hB
 have HZ := jI (jA hz (jA (show g < w0.heap.size by omega) (jA (show Below g w w0 by rw [hg]; exact hb0) (jA hgB (jA hm hm0)))))
 have HG := jI hg
 have HW := jI hw0
 have e00 : ((0 : Nat) : Int) = 0 := rfl
 rw [e00] at HT
 clear h ht hr hm hn4 hm0 hd hw0 hg hb0 hz0 hsz hz hgB hB
 go_enter Tryz.func58, Tryz.ntmps58
 go_upto_region 1 with fail
 rw [← HW.out, ← HG.out]
 go_upto_region 2 with (go_at_call 98; go_must (refine HT.out.mono ?_; rintro y w1 ⟨A1, c1, A2, c2, rfl, hS1, hS2, hb1⟩; obtain ⟨W, q, hW, hq, hrb, heb, hzb, hbW, hb1W⟩ := dec_boxes (.slice A1 n4 c1) (.int .i64 (k4 : Int)) (.int .i64 e0.index) (.int .i64 e0.term) (.int .i64 e0.kind) (.slice A2 m0 c2) HZ.out.2.1 HZ.out.1 HZ.out.2.2.1 hb1; have HQ := jI (jA hW hq); have HX := jI (jA hrb (jA heb (jA hzb (jA hbW (hS2.below (hb1W.mono (Nat.le_trans HZ.out.2.2.2.1 (Nat.le_trans (Nat.le_of_lt HZ.out.2.1) hb1.size)))))))); clear hW hq hrb heb hzb hbW hb1W hb1 hS1 hS2))
 rw [← HQ.out.1, ← HQ.out.2]
 obtain ⟨x0, x1, xf0, xf1⟩ := HX.out.1.facts
 obtain ⟨e0c, e1c, e2c, e3c⟩ := cells4 HX.out.2.1
 have HDD := jI (HD.out A1 c1 W)
 have fin : ∀ (W2 : World) (a b c d : Value), Below W.heap.size W W2 → ∃ F, F = put4 W2 g a b c d ∧ E4 F g a b c d ∧ Below w.heap.size w F ∧ Below B W F := fun W2 a b c d hb => by
   have hg := HG.out
   have h1 := HX.out.2.2.1.below hb
   refine ⟨_, rfl, put4_own h1 _ _ _ _, ?_, ?_⟩
   · rw [← hg]
     exact put4_below (HX.out.2.2.2.1.trans (hb.mono (Nat.le_of_lt HX.out.2.2.1.lt))) (Nat.le_refl _)
   · exact put4_below (hb.mono (Nat.le_trans HZ.out.2.2.2.1 (Nat.le_of_lt HX.out.2.2.1.lt))) HZ.out.2.2.2.1
 have FIN := jI fin
 clear fin
 have hzf := fun (W2 : World) (hb : Below W.heap.size W W2) => frozen_own (HX.out.2.2.1.below hb)
 have HZF := jI hzf
 have HXB := jI fun (W2 : World) (hb : Below W.heap.size W W2) => cells4 (HX.out.2.1.below hb)
 have HZC := jI fun (W2 : World) (hb : Below W.heap.size W W2) => cells4 (HX.out.2.2.1.below hb)
 clear hzf e0c e1c e2c e3c
 rcases HC.out with ⟨c0, r1, r2⟩ | ⟨c0, ci, r1, r2⟩ | ⟨c0, ci, ct, r1, r2⟩ | ⟨c0, ci, ct, r1, r2⟩
 · have hz : ((d : Int) != 0) = true := by simp; omega
   have HR := jI (jA r1 r2)
   clear c0 r1 r2
   go_wp2_with (go_at_call 59; go_must (refine HDD.out.mono ?_; rintro y W2 ⟨rfl, hb2⟩; obtain ⟨e0c, e1c, e2c, e3c⟩ := HXB.out W2 hb2; obtain ⟨z0c, z1c, z2c, z3c⟩ := HZC.out W2 hb2; have f0 := HZF.out W2 hb2 0; have f1 := HZF.out W2 hb2 1; have f2 := HZF.out W2 hb2 2; have f3 := HZF.out W2 hb2 3; have HB2 := jI hb2; clear hb2))
   obtain ⟨F, hF, hE, hbF, hbG⟩ := FIN.out W2 (.int .i64 0) (.int .i64 0) (.int .i64 0) (.slice none 0 0) HB2.out
   unfold put4 at hF
   rw [← hF]
   clear hF z0c z1c z2c z3c
   obtain ⟨z0c, z1c, z2c, z3c⟩ := cells4 hE
   have hm := HZ.out.2.2.2.2.1
   rw [HR.out.1] at hm
   have hm' : m = 0 := hm
   rw [HR.out.1, HR.out.2, hm']
   exact bodyPost_ret (v := .tuple #[.agg #[.int .i64 0, .int .i64 0, .int .i64 0, .slice none 0 0], .int .i64 3]) (by simp [results, Tryz.results58, go_sem, z0c, z1c, z2c, z3c]) rfl ⟨none, 0, rfl, Sl.nil_ _ _, hbF⟩
 · subst c0
   have HR := jI (jA r1 r2)
   clear r1 r2
   go_wp2_with (go_at_call 59; go_must (refine HDD.out.mono ?_; rintro y W2 ⟨rfl, hb2⟩; obtain ⟨e0c, e1c, e2c, e3c⟩ := HXB.out W2 hb2; obtain ⟨z0c, z1c, z2c, z3c⟩ := HZC.out W2 hb2; have f0 := HZF.out W2 hb2 0; have f1 := HZF.out W2 hb2 1; have f2 := HZF.out W2 hb2 2; have f3 := HZF.out W2 hb2 3; have HB2 := jI hb2; clear hb2))
   obtain ⟨F, hF, hE, hbF, hbG⟩ := FIN.out W2 (.int .i64 0) (.int .i64 0) (.int .i64 0) (.slice none 0 0) HB2.out
   unfold put4 at hF
   rw [← hF]
   clear hF z0c z1c z2c z3c
   obtain ⟨z0c, z1c, z2c, z3c⟩ := cells4 hE
   have hm := HZ.out.2.2.2.2.1
   rw [HR.out.1] at hm
   have hm' : m = 0 := hm
   rw [HR.out.1, HR.out.2, hm']
   exact bodyPost_ret (v := .tuple #[.agg #[.int .i64 0, .int .i64 0, .int .i64 0, .slice none 0 0], .int .i64 3]) (by simp [results, Tryz.results58, go_sem, z0c, z1c, z2c, z3c]) rfl ⟨none, 0, rfl, Sl.nil_ _ _, hbF⟩
 · subst c0
   have HR := jI (jA r1 r2)
   clear r1 r2
   go_wp2_with (go_at_call 59; go_must (refine HDD.out.mono ?_; rintro y W2 ⟨rfl, hb2⟩; obtain ⟨e0c, e1c, e2c, e3c⟩ := HXB.out W2 hb2; obtain ⟨z0c, z1c, z2c, z3c⟩ := HZC.out W2 hb2; have f0 := HZF.out W2 hb2 0; have f1 := HZF.out W2 hb2 1; have f2 := HZF.out W2 hb2 2; have f3 := HZF.out W2 hb2 3; have HB2 := jI hb2; clear hb2))
   obtain ⟨F, hF, hE, hbF, hbG⟩ := FIN.out W2 (.int .i64 0) (.int .i64 0) (.int .i64 0) (.slice none 0 0) HB2.out
   unfold put4 at hF
   rw [← hF]
   clear hF z0c z1c z2c z3c
   obtain ⟨z0c, z1c, z2c, z3c⟩ := cells4 hE
   have hm := HZ.out.2.2.2.2.1
   rw [HR.out.1] at hm
   have hm' : m = 0 := hm
   rw [HR.out.1, HR.out.2, hm']
   exact bodyPost_ret (v := .tuple #[.agg #[.int .i64 0, .int .i64 0, .int .i64 0, .slice none 0 0], .int .i64 3]) (by simp [results, Tryz.results58, go_sem, z0c, z1c, z2c, z3c]) rfl ⟨none, 0, rfl, Sl.nil_ _ _, hbF⟩
 · subst c0
   have HR := jI (jA r1 r2)
   clear r1 r2
   go_wp2_with (go_at_call 59; go_must (refine HDD.out.mono ?_; rintro y W2 ⟨rfl, hb2⟩; obtain ⟨e0c, e1c, e2c, e3c⟩ := HXB.out W2 hb2; obtain ⟨z0c, z1c, z2c, z3c⟩ := HZC.out W2 hb2; have f0 := HZF.out W2 hb2 0; have f1 := HZF.out W2 hb2 1; have f2 := HZF.out W2 hb2 2; have f3 := HZF.out W2 hb2 3; have HB2 := jI hb2; clear hb2))
   obtain ⟨F, hF, hE, hbF, hbG⟩ := FIN.out W2 (.int .i64 e0.index) (.int .i64 e0.term) (.int .i64 e0.kind) (.slice A2 m0 c2) HB2.out
   unfold put4 at hF
   rw [← hF]
   clear hF z0c z1c z2c z3c
   obtain ⟨z0c, z1c, z2c, z3c⟩ := cells4 hE
   have hm := HZ.out.2.2.2.2.1
   rw [HR.out.1, ← HZ.out.2.2.2.2.2] at hm
   rw [HR.out.1, HR.out.2, hm]
   exact bodyPost_ret (v := .tuple #[.agg #[.int .i64 e0.index, .int .i64 e0.term, .int .i64 e0.kind, .slice A2 m0 c2], .int .i64 0]) (by simp [results, Tryz.results58, go_sem, z0c, z1c, z2c, z3c]) rfl ⟨A2, c2, rfl, HX.out.2.2.2.2.below hbG, hbF⟩
end
section
structure LD (cnt j : Nat) (s : List UInt8) (k : Nat) (okb : Bool) (es : List En) (sF : List UInt8) (kF : Nat) (okF : Bool) (esF : List En) : Prop where
 le : j ≤ cnt
 st : (takeEs (cnt - j) (s, k)).1.1 = (sF, kF)
 bo : (okb && (takeEs (cnt - j) (s, k)).1.2) = okF
 li : es ++ (takeEs (cnt - j) (s, k)).2 = esF
 fit : ∀ e ∈ es, e.ok
theorem rd_ok {s s' : List UInt8} {k k' : Nat} {e : En} (h : takeE (s, k) = ((s', k'), e)) : e.ok := by
 rcases h1 : rUint 1099511627776 (s, k) with ⟨⟨s1, k1⟩, v1⟩
 rcases h2 : rUint 1099511627776 (s1, k1) with ⟨⟨s2, k2⟩, v2⟩
 rcases h3 : rUint 2 (s2, k2) with ⟨⟨s3, k3⟩, v3⟩
 rcases h4 : rBytes 98 4096 (s3, k3) with ⟨⟨s4', k4'⟩, x⟩
 have l1 : v1 ≤ 1099511627776 := by have := rUint_le 1099511627776 (s, k); rw [h1] at this; exact this
 have l2 : v2 ≤ 1099511627776 := by have := rUint_le 1099511627776 (s1, k1); rw [h2] at this; exact this
 have l3 : v3 ≤ 2 := by have := rUint_le 2 (s2, k2); rw [h3] at this; exact this
 unfold takeE at h
 simp only [h1, h2, h3, h4, Prod.mk.injEq] at h
 obtain ⟨-, rfl⟩ := h
 unfold En.ok
 refine ⟨?_, ?_, ?_⟩ <;> (try unfold inI) <;> simp only <;> omega
theorem decE_ok {b : List UInt8} {e : En} {f : Nat} (h : decE b = (e, f)) : e.ok := by
 rcases ht : takeE (b, 0) with ⟨⟨s, k⟩, e0⟩
 unfold decE at h
 simp only [ht] at h
 split at h
 · injection h with a b
   subst a
   exact ze_ok
 · injection h with a b
   subst a
   exact rd_ok ht
section
variable {cnt j : Nat} {s : List UInt8} {k : Nat} {okb : Bool} {es : List En} {sF : List UInt8} {kF : Nat} {okF : Bool} {esF : List En}
theorem ld_start (h : takeEs cnt (s, k) = (((sF, kF), okF), esF)) : LD cnt 0 s k true [] sF kF okF esF := by
 refine ⟨Nat.zero_le _, ?_, ?_, ?_, fun e he => by cases he⟩ <;> rw [Nat.sub_zero, h] <;> rfl
theorem ld_end (h : LD cnt j s k okb es sF kF okF esF) (hend : j = cnt ∨ k ≠ 0) : s = sF ∧ k = kF ∧ okb = okF ∧ es = esF := by
 have ht : takeEs (cnt - j) (s, k) = (((s, k), true), []) := by
   rcases hend with rfl | hk
   · rw [Nat.sub_self]; rfl
   · cases hc : cnt - j with
     | zero => rfl
     | succ q => unfold takeEs; rw [if_pos hk]
 obtain ⟨_, h1, h2, h3, _⟩ := h
 rw [ht] at h1 h2 h3
 simp only [Prod.mk.injEq, Bool.and_true, List.append_nil] at h1 h2 h3
 exact ⟨h1.1, h1.2, h2, h3⟩
theorem ld_next (h : LD cnt j s 0 okb es sF kF okF esF) (hj : j < cnt) {s1 x : List UInt8} {k1 f : Nat} {e : En} (hr : rBytes 98 4200 (s, 0) = ((s1, k1), x)) (hd : decE x = (e, f)) : LD cnt (j + 1) s1 k1 (okb && decide (f = 0)) (es ++ [e]) sF kF okF esF := by
 have hc : cnt - j = (cnt - (j + 1)) + 1 := by omega
 have ht : takeEs (cnt - j) (s, 0) = (((takeEs (cnt - (j + 1)) (s1, k1)).1.1, decide (f = 0) && (takeEs (cnt - (j + 1)) (s1, k1)).1.2), e :: (takeEs (cnt - (j + 1)) (s1, k1)).2) := by
   rw [hc]
   conv => lhs; unfold takeEs
   rw [if_neg (fun h => h rfl)]
   simp only [hr, hd]
 obtain ⟨_, h1, h2, h3, h4⟩ := h
 rw [ht] at h1 h2 h3
 refine ⟨hj, h1, by rw [← h2, Bool.and_assoc], by rw [← h3, List.append_assoc]; rfl, fun y hy => ?_⟩
 rcases List.mem_append.mp hy with hy | hy
 · exact h4 y hy
 · rw [List.mem_singleton.mp hy]; exact decE_ok hd
end
theorem OwnE.setp {w : World} {C B : Nat} {t : TypeId} {v : Value} {l : List En} (h : OwnE w C (fun k => k < B) t v l) (p : Addr) (h1 : B ≤ p.block) (h2 : p.block < C) (u : Value) : OwnE (w.setCell p u) C (fun k => k < B) t v l :=
 h.kept (fun k _ ho => Below.heap_setCell _ _ _ _ (by rcases ho with h3 | h3; · have h4 : k < B := h3; omega
                                                      · have h4 := (h.lt k h3).1; omega)) (by simp)
theorem info_ref_ : (Tryz.prog.info? 96).map (fun i => (i.zero, i.size, i.bytes)) = some (some (.agg #[.int .i64 0, .int .i64 0, .int .i64 0, .slice none 0 0]), 4, 48) := by kernel_rfl
end
end Go.Proofs.YtncaefocijainaaGreatDoor.pk
