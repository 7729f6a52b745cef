/-
  Texts of the proof, joined: DeM.
-/
import Derived.Test.YtfblgkcipnkhaaaGreatDoorJg

/-
  The program's own message of bytes: its boxes; its head taken off.
-/
namespace Go.Proofs.YtfblgkcipnkhaaaGreatDoor.pk
open Go Go.RowKit
set_option maxRecDepth 100000

/-- A box of twelve cells of the program's. -/
def N12 (w : World) (g : Nat) (v0 v1 v2 v3 v4 v5 v6 v7 v8 v9 v10 v11 : Value) : Prop := w.heap[g]? = some (.cells #[v0, v1, v2, v3, v4, v5, v6, v7, v8, v9, v10, v11] 30 (0, 0))
theorem N12.lt {w : World} {g : Nat} {v0 v1 v2 v3 v4 v5 v6 v7 v8 v9 v10 v11 : Value} (h : N12 w g v0 v1 v2 v3 v4 v5 v6 v7 v8 v9 v10 v11) : g < w.heap.size := obj_lt h
theorem N12.to {w w' : World} {g : Nat} {v0 v1 v2 v3 v4 v5 v6 v7 v8 v9 v10 v11 : Value} (h : N12 w g v0 v1 v2 v3 v4 v5 v6 v7 v8 v9 v10 v11) (e : w'.heap[g]? = w.heap[g]?) : N12 w' g v0 v1 v2 v3 v4 v5 v6 v7 v8 v9 v10 v11 := e.trans h
theorem N12.set11 {w : World} {g : Nat} {v0 v1 v2 v3 v4 v5 v6 v7 v8 v9 v10 v11 : Value} (h : N12 w g v0 v1 v2 v3 v4 v5 v6 v7 v8 v9 v10 v11) (u : Value) : N12 (w.setCell ⟨g, 11, none⟩ u) g v0 v1 v2 v3 v4 v5 v6 v7 v8 v9 v10 u := by
  unfold N12 at h ⊢; simp [World.setCell, Array.getElem?_modify, h]

/-- Where Decode stands: its reader, the variable that holds it. -/
structure DK (W0 : World) (p gr : Nat) (W : World) (v : Value) (s : List UInt8) (k : Nat) : Prop where
  bel : Below W0.heap.size W0 W
  rd : RD W p v s k
  cel : W.heap[gr]? = some (.cells #[.pointer (some ⟨p, 0, none⟩)] 49 (0, 0))
  hp : W0.heap.size ≤ p
  hgr : p < gr
section
variable {W0 W W' : World} {p gr : Nat} {v v' : Value} {s s' : List UInt8} {k k' : Nat}
theorem DK.lt (h : DK W0 p gr W v s k) : gr < W.heap.size := obj_lt h.cel
theorem DK.cell (h : DK W0 p gr W v s k) : W.cell? ⟨gr, 0, none⟩ = some (.pointer (some ⟨p, 0, none⟩)) := by rw [cell_of_row W gr 0 _ _ (0, 0) h.cel]; rfl
theorem DK.read (h : DK W0 p gr W v s k) (hr : RD W' p v' s' k') (hg : W.grownBy W' (some p)) : DK W0 p gr W' v' s' k' :=
  ⟨Below.rd h.bel hg (Nat.le_refl _) h.hp, hr, (hg.block gr h.lt (by intro e; injection e with e; have := h.hgr; omega)).trans h.cel, h.hp, h.hgr⟩
theorem DK.low {C : Nat} (h : DK W0 p gr W v s k) (hb : Below C W W') (hC : gr < C) : DK W0 p gr W' v s k :=
  ⟨h.bel.trans (hb.mono (by have := h.hp; have := h.hgr; omega)), h.rd.below hb (by have := h.hgr; omega), (hb.block gr hC).trans h.cel, h.hp, h.hgr⟩
theorem DK.more (h : DK W0 p gr W v s k) (hb : Below W.heap.size W W') : DK W0 p gr W' v s k := h.low hb h.lt
end
theorem cell_at {W : World} {gr p : Nat} (h : W.heap[gr]? = some (.cells #[.pointer (some ⟨p, 0, none⟩)] 49 (0, 0))) : W.cell? ⟨gr, 0, none⟩ = some (.pointer (some ⟨p, 0, none⟩)) := by rw [cell_of_row W gr 0 _ _ (0, 0) h]; rfl

theorem step_fun {P : Program} {ops : Array Oper} {o : Oper} {a : Act} {w : World} {K : Act → World → Prop} {Q : Exit → Act → World → Prop} {E : Prop} (hgd : o.guard = none) (x : Operand) (xs : Array Operand) (ts : Array TypeId)
    (ho : o.op = .call { callee := .value x, args := xs, argTypes := ts }) (g : FuncId) (cap : Array Value) (hx : a.eval x = .func (.func g) #[] cap) (vs : Array Value) (hv : xs.toList.map a.eval ++ cap.toList = vs.toList)
    (eg : ∀ args w, (callFunc g args).run P w = .ok (.enter g args) w) {R : Ending → World → Prop} (hC : Calls P g vs w R) (hK : ∀ y w', R y w' → ∃ z, y = .returned z ∧ K (a.put o.dst z) w') :
    if Region.wanted o (yielded ops a.tmps) = true then Oper.wp P o a w K Q else E := by
  refine step_op' hgd ?_
  have hva : xs.map a.eval ++ cap = vs := Array.ext' (by simpa using hv)
  have h : (execOp a.eval o).run P w = .ok (.enter g vs) w := by
    unfold execOp
    simp only [ho, resolve, hx, Deferred.ofValue, invoke, Sem.run_bind, Sem.run_pure, Result.andThen_ok]
    rw [Array.empty_append, hva]
    exact (by simp [eg])
  unfold Oper.wp
  rw [h, Oper.upon_enter]
  refine hC.mono ?_
  intro y w' hy
  obtain ⟨z, rfl, hz⟩ := hK y w' hy
  exact hz
theorem step_box {ops : Array Oper} {o : Oper} {a : Act} {w : World} {K : Act → World → Prop} {Q : Exit → Act → World → Prop} {E : Prop} (hgd : o.guard = none) (ho : o.op = .alloc 30)
    (h : K (a.put o.dst (.pointer (some ⟨w.heap.size, 0, none⟩))) (w.alloc (.cells #[.int .i64 0, .int .i64 0, .int .i64 0, .int .i64 0, .int .i64 0, .int .i64 0, .int .i64 0, .int .i64 0, .bool false, .int .i64 0, .slice none 0 0, .slice none 0 0] 30))) : if Region.wanted o (yielded ops a.tmps) = true then Oper.wp Tryz.prog o a w K Q else E := by
  refine step_op' hgd ?_
  unfold Oper.wp execOp
  simp only [ho]
  go_simp
  exact h
theorem step_put12 {ops : Array Oper} {o : Oper} {a : Act} {w : World} {K : Act → World → Prop} {Q : Exit → Act → World → Prop} {E : Prop} (hgd : o.guard = none) (x y : Operand) (ho : o.op = .store 30 x y) (g : Nat) (hx : a.eval x = .pointer (some ⟨g, 0, none⟩))
    {u0 u1 u2 u3 u4 u5 u6 u7 u8 u9 u10 u11 : Value} {a1 a2 a3 a4 a5 a6 a7 a8 : Int} {a9 : Bool} {a10 : Int} {A A2 : Option Addr} {n c n2 c2 : Nat} (hy : a.eval y = .agg #[.int .i64 a1, .int .i64 a2, .int .i64 a3, .int .i64 a4, .int .i64 a5, .int .i64 a6, .int .i64 a7, .int .i64 a8, .bool a9, .int .i64 a10, .slice A n c, .slice A2 n2 c2]) (hm : N12 w g u0 u1 u2 u3 u4 u5 u6 u7 u8 u9 u10 u11)
    (h : ∀ F, N12 F g (.int .i64 a1) (.int .i64 a2) (.int .i64 a3) (.int .i64 a4) (.int .i64 a5) (.int .i64 a6) (.int .i64 a7) (.int .i64 a8) (.bool a9) (.int .i64 a10) (.slice A n c) (.slice A2 n2 c2) → (∀ B, B ≤ g → Below B w F) → (∀ k, k ≠ g → F.heap[k]? = w.heap[k]?) → F.heap.size = w.heap.size → K (a.put o.dst undef) F) : if Region.wanted o (yielded ops a.tmps) = true then Oper.wp Tryz.prog o a w K Q else E := by
  refine step_op' hgd ?_
  obtain ⟨z0, z1, z2, z3, z4, z5, z6, z7, z8, z9, z10, z11⟩ := cells12 hm
  have f0 := frozen_own hm 0
  have f1 := frozen_own hm 1
  have f2 := frozen_own hm 2
  have f3 := frozen_own hm 3
  have f4 := frozen_own hm 4
  have f5 := frozen_own hm 5
  have f6 := frozen_own hm 6
  have f7 := frozen_own hm 7
  have f8 := frozen_own hm 8
  have f9 := frozen_own hm 9
  have f10 := frozen_own hm 10
  have f11 := frozen_own hm 11
  obtain ⟨F, hF, hE, hbQ, hoth, hsF⟩ := put12 hm (.int .i64 a1) (.int .i64 a2) (.int .i64 a3) (.int .i64 a4) (.int .i64 a5) (.int .i64 a6) (.int .i64 a7) (.int .i64 a8) (.bool a9) (.int .i64 a10) (.slice A n c) (.slice A2 n2 c2)
  have hk := h F hE hbQ hoth hsF
  unfold Oper.wp execOp
  simp only [ho, hx, hy]
  rw [hF] at hk
  clear hF hE hbQ hoth hsF h hm
  go_simp
  exact hk

set_option maxHeartbeats 2000000 in
/-- 'number()'. -/
theorem numC_any (s : List UInt8) (k : Nat) (s' : List UInt8) (k' u : Nat) (h1 : rUint 1099511627776 (s, k) = ((s', k'), u)) (hu : u ≤ 1099511627776) (p gr : Nat) (v : Value) (w : World) (hs : StdP w) (hc : w.cell? ⟨gr, 0, none⟩ = some (.pointer (some ⟨p, 0, none⟩))) (h : RD w p v s k) :
    Calls Tryz.prog 25 #[.pointer (some ⟨gr, 0, none⟩)] w fun y w' => ∃ v', y = .returned (.int .i64 (u : Int)) ∧ RD w' p v' s' k' ∧ w.grownBy w' (some p) := by
  have C := Lib.hid (Uint_s p 1099511627776 s k s' k' u h1 v w hs h)
  have ww : ((1099511627776 : Nat) : Int) = 1099511627776 := rfl
  rw [ww] at C
  have wr := wrap_small hu
  clear h1 hu h hs ww
  go_enter Tryz.func25, Tryz.ntmps25
  go_wp2_with (go_at_call 26; go_must (refine C.out.mono ?_; rintro y w1 ⟨v', rfl, hr, hg⟩; have H1 := Lib.hid (And.intro hr hg); clear hr hg))
  go_ret
  exact ⟨v', rfl, H1.out.1, H1.out.2⟩


/-- Where the head's bytes lie, once the loop begins. -/
def Tc (W0 : World) (CB p gm q : Nat) : Prop := W0.heap.size ≤ q ∧ q < CB ∧ q ≠ p ∧ q ≠ gm
/-- A reader's call, and what it leaves. -/
theorem ls_read {W0 W W' : World} {p gr gm CB : Nat} {v v' u va : Value} {s s' xs : List UInt8} {k k' : Nat} {es : List En} {y0 y1 y2 y3 y4 y5 y6 y7 y8 y9 y10 y11 : Value} (hD : DK W0 p gr W v s k) (hgm : gr < gm) (hCB : gm < CB) (hN : N12 W gm y0 y1 y2 y3 y4 y5 y6 y7 y8 y9 y10 y11) (hX : SlT W (Tc W0 CB p gm) u xs) (hO : OwnE W CB (fun q => CB ≤ q) 57 va es)
    (hr : RD W' p v' s' k') (hg : W.grownBy W' (some p)) : DK W0 p gr W' v' s' k' ∧ N12 W' gm y0 y1 y2 y3 y4 y5 y6 y7 y8 y9 y10 y11 ∧ SlT W' (Tc W0 CB p gm) u xs ∧ OwnE W' CB (fun q => CB ≤ q) 57 va es := by
  have h1 := hD.hgr
  refine ⟨hD.read hr hg, hN.to (hg.block gm hN.lt (by intro e; injection e with e; omega)), ?_, ?_⟩
  · exact hX.kept fun q hq hq2 => hg.block q hq2 (by intro e; injection e with e; exact hq.2.2.1 e)
  · refine hO.kept (fun q hq ho => hg.block q hq (by intro e; injection e with e; rcases ho with h2 | h2; (have h3 : CB ≤ q := h2; omega); (have h3 := (hO.lt q h2).1; omega))) hg.size
theorem ls_more {W0 W W' : World} {p gr gm CB : Nat} {v u va : Value} {s xs : List UInt8} {k : Nat} {es : List En} {y0 y1 y2 y3 y4 y5 y6 y7 y8 y9 y10 y11 : Value} (hD : DK W0 p gr W v s k) (hN : N12 W gm y0 y1 y2 y3 y4 y5 y6 y7 y8 y9 y10 y11) (hX : SlT W (Tc W0 CB p gm) u xs) (hO : OwnE W CB (fun q => CB ≤ q) 57 va es)
    (hb : Below W.heap.size W W') : DK W0 p gr W' v s k ∧ N12 W' gm y0 y1 y2 y3 y4 y5 y6 y7 y8 y9 y10 y11 ∧ SlT W' (Tc W0 CB p gm) u xs ∧ OwnE W' CB (fun q => CB ≤ q) 57 va es :=
  ⟨hD.more hb, hN.to (hb.block gm hN.lt), hX.kept fun q _ hq2 => hb.block q hq2, hO.more hb⟩
theorem ld_bad {cnt j : Nat} {s : List UInt8} {k : Nat} {es : List En} {sF : List UInt8} {kF : Nat} {okF : Bool} {esF : List En} (h : LD cnt j s k true es sF kF okF esF) (hj : j < cnt) {s1 x : List UInt8} {k1 f : Nat} {e : En} (hr : rBytes 98 4200 (s, k) = ((s1, k1), x)) (hd : decE x = (e, f)) (hf : f ≠ 0) :
    (decide (doneR (sF, kF) = 0) && okF) = false := by
  by_cases hk : k = 0
  · subst hk
    have h1 := (ld_next h hj hr hd).bo
    rw [decide_eq_false hf, Bool.and_false, Bool.false_and] at h1
    rw [← h1, Bool.and_false]
  · obtain ⟨rfl, rfl, -, -⟩ := ld_end h (Or.inr hk)
    rw [decide_eq_false (by unfold doneR; rw [if_neg (by simp [hk])]; exact hk), Bool.false_and]
theorem rBytes_stop {s s1 x : List UInt8} {k k1 : Nat} (hr : rBytes 98 4200 (s, k) = ((s1, k1), x)) (hk : k ≠ 0) : x = [] := by
  unfold rBytes at hr
  rw [if_neg hk] at hr
  injection hr with _ h2
  exact h2.symm
theorem decE_nil_ : (decE []).2 = 3 := by
  have h1 := decE_kind []
  rcases h1 with h1 | h1
  · have h2 := (decE_inv h1).1
    have h3 := congrArg List.length h2
    unfold encE lUint at h3
    simp at h3
  · exact h1

/-- Where the head's bytes lie. -/
def Tq (W0 : World) (p gm : Nat) (W : World) (q : Nat) : Prop := W0.heap.size ≤ q ∧ q < W.heap.size ∧ q ≠ p ∧ q ≠ gm


set_option maxHeartbeats 64000000 in
theorem DecM_walk (A : Option Addr) (n c : Nat) (b : List UInt8) (w : World) (hs : StdP w) (h : Bys w (.slice A n c) b) (hn : n ≤ 140737488355328)
    (s1 : List UInt8) (k1 : Nat) (v1 : Nat) (h1 : rUint 1099511627776 (b, 0) = ((s1, k1), v1)) (l1 : v1 ≤ 1099511627776)
    (s2 : List UInt8) (k2 : Nat) (v2 : Nat) (h2 : rUint 1099511627776 (s1, k1) = ((s2, k2), v2)) (l2 : v2 ≤ 1099511627776)
    (s3 : List UInt8) (k3 : Nat) (v3 : Nat) (h3 : rUint 1099511627776 (s2, k2) = ((s3, k3), v3)) (l3 : v3 ≤ 1099511627776)
    (s4 : List UInt8) (k4 : Nat) (v4 : Nat) (h4 : rUint 1099511627776 (s3, k3) = ((s4, k4), v4)) (l4 : v4 ≤ 1099511627776)
    (s5 : List UInt8) (k5 : Nat) (v5 : Nat) (h5 : rUint 1099511627776 (s4, k4) = ((s5, k5), v5)) (l5 : v5 ≤ 1099511627776)
    (s6 : List UInt8) (k6 : Nat) (v6 : Nat) (h6 : rUint 1099511627776 (s5, k5) = ((s6, k6), v6)) (l6 : v6 ≤ 1099511627776)
    (s7 : List UInt8) (k7 : Nat) (v7 : Nat) (h7 : rUint 1099511627776 (s6, k6) = ((s7, k7), v7)) (l7 : v7 ≤ 1099511627776)
    (s8 : List UInt8) (k8 : Nat) (v8 : Nat) (h8 : rUint 1099511627776 (s7, k7) = ((s8, k8), v8)) (l8 : v8 ≤ 1099511627776)
    (s9 : List UInt8) (k9 : Nat) (v9 : Bool) (h9 : rBool (s8, k8) = ((s9, k9), v9))
    (s10 : List UInt8) (k10 : Nat) (v10 : Nat) (h10 : rUint 1099511627776 (s9, k9) = ((s10, k10), v10)) (l10 : v10 ≤ 1099511627776)
    (s11 : List UInt8) (k11 : Nat) (v11 : List UInt8) (h11 : rBytes 98 4096 (s10, k10) = ((s11, k11), v11))
    (hl10 : s10.length ≤ 140737488355328) (n11 : Nat) (hn11 : n11 = v11.length) (hl11 : s11.length ≤ 140737488355328)
    (s12 : List UInt8) (k12 cnt : Nat) (h12 : rCount 64 (s11, k11) = ((s12, k12), cnt)) (hl12 : s12.length ≤ 140737488355328) (hcnt : cnt ≤ 64) (sF : List UInt8) (kF : Nat) (okF : Bool) (esF : List En) (ht : takeEs cnt (s12, k12) = (((sF, kF), okF), esF))
    (m : Ms) (kk : Nat) (hfin : (m, kk) = if (decide (doneR (sF, kF) = 0) && okF && mayM ⟨(v1 : Int), (v2 : Int), (v3 : Int), (v4 : Int), (v5 : Int), (v6 : Int), (v7 : Int), (v8 : Int), v9, (v10 : Int), v11, esF⟩) = true then (⟨(v1 : Int), (v2 : Int), (v3 : Int), (v4 : Int), (v5 : Int), (v6 : Int), (v7 : Int), (v8 : Int), v9, (v10 : Int), v11, esF⟩, 0) else (zm, 3)) (nd ne : Nat) (hnd : nd = m.data.length) (hne : ne = m.ents.length) :
    Calls Tryz.prog 11 #[.slice A n c] w fun y w' => ∃ Ad cd Ae ce, y = .returned (.tuple #[.agg #[.int .i64 m.kind, .int .i64 m.frm, .int .i64 m.to, .int .i64 m.term, .int .i64 m.index, .int .i64 m.logTerm, .int .i64 m.commit, .int .i64 m.round, .bool m.ok, .int .i64 m.off, .slice Ad nd cd, .slice Ae ne ce], er kk]) ∧ InT m Ad nd cd Ae ne ce (fun q => w.heap.size ≤ q ∧ q < w'.heap.size) w' ∧ Below w.heap.size w w' := by
  obtain ⟨W0, g0, hW0, hg0, hb0, hz0, hsz0⟩ := one_box w (.cells #[.int .i64 0, .int .i64 0, .int .i64 0, .int .i64 0, .int .i64 0, .int .i64 0, .int .i64 0, .int .i64 0, .bool false, .int .i64 0, .slice none 0 0, .slice none 0 0] 30)
  have hln := h.len_
  have HW := Lib.hid (And.intro hW0 hg0)
  have HE := Lib.hid (And.intro hb0 (And.intro (show N12 W0 g0 (.int .i64 0) (.int .i64 0) (.int .i64 0) (.int .i64 0) (.int .i64 0) (.int .i64 0) (.int .i64 0) (.int .i64 0) (.bool false) (.int .i64 0) (.slice none 0 0) (.slice none 0 0) from hz0) hsz0))
  have HS0 := hs.more hb0
  have HS := Lib.hid fun W (hW : Below W0.heap.size W0 W) => HS0.more hW
  have C0 := Lib.hid (Read_any A n c b W0 W0.heap.size ((h.below hb0).sl_) (by omega))
  have C1 := Lib.hid fun p gr v W hs hc h => numC_any b 0 s1 k1 v1 h1 l1 p gr v W hs hc h
  have C2 := Lib.hid fun p gr v W hs hc h => numC_any s1 k1 s2 k2 v2 h2 l2 p gr v W hs hc h
  have C3 := Lib.hid fun p gr v W hs hc h => numC_any s2 k2 s3 k3 v3 h3 l3 p gr v W hs hc h
  have C4 := Lib.hid fun p gr v W hs hc h => numC_any s3 k3 s4 k4 v4 h4 l4 p gr v W hs hc h
  have C5 := Lib.hid fun p gr v W hs hc h => numC_any s4 k4 s5 k5 v5 h5 l5 p gr v W hs hc h
  have C6 := Lib.hid fun p gr v W hs hc h => numC_any s5 k5 s6 k6 v6 h6 l6 p gr v W hs hc h
  have C7 := Lib.hid fun p gr v W hs hc h => numC_any s6 k6 s7 k7 v7 h7 l7 p gr v W hs hc h
  have C8 := Lib.hid fun p gr v W hs hc h => numC_any s7 k7 s8 k8 v8 h8 l8 p gr v W hs hc h
  have C9 := Lib.hid fun p v W h => Bool_s p s8 k8 s9 k9 v9 h9 v W h
  have C10 := Lib.hid fun p gr v W hs hc h => numC_any s9 k9 s10 k10 v10 h10 l10 p gr v W hs hc h
  have C11 := Lib.hid fun p v W hs h => Bytes_s p 4096 (by omega) s10 k10 hl10 s11 k11 v11 h11 n11 hn11 v W hs h
  have C12 := Lib.hid fun p v W hs h => Count_s p 64 (by omega) s11 k11 s12 k12 cnt h12 v W hs h
  have w64 : ((64 : Nat) : Int) = 64 := rfl
  rw [w64] at C12
  have e25 : ∀ args w, (callFunc 25 args).run Tryz.prog w = .ok (.enter 25 args) w := enters_of Tryz.func25 (by kernel_rfl) rfl
  have e27 : ∀ args w, (callFunc 27 args).run Tryz.prog w = .ok (.enter 27 args) w := enters_of Tryz.func27 (by kernel_rfl) rfl
  have e28 : ∀ args w, (callFunc 28 args).run Tryz.prog w = .ok (.enter 28 args) w := enters_of Tryz.func28 (by kernel_rfl) rfl
  have HLD := Lib.hid (ld_start ht)
  have HN := Lib.hid (And.intro hn11 (And.intro hl12 (And.intro hcnt (And.intro hfin (And.intro hnd hne)))))
  have HI0 := Lib.hid (show inI (v1 : Int) ∧ inI (v2 : Int) ∧ inI (v3 : Int) ∧ inI (v4 : Int) ∧ inI (v5 : Int) ∧ inI (v6 : Int) ∧ inI (v7 : Int) ∧ inI (v8 : Int) ∧ inI (v10 : Int) from ⟨in_small l1, in_small l2, in_small l3, in_small l4, in_small l5, in_small l6, in_small l7, in_small l8, in_small l10⟩)
  clear hW0 hg0 hb0 hz0 hsz0 hln h hn hs HS0 ht hfin hnd hne hcnt hl12 h12 hn11 hl10 hl11 w64 h1 h2 h3 h4 h5 h6 h7 h8 h9 h10 h11 l1 l2 l3 l4 l5 l6 l7 l8 l10
  go_enter Tryz.func11, Tryz.ntmps11
  go_upto_region 1 with fail
  rw [← HW.out.1]
  try rw [← HW.out.2]
  go_upto_region 3 with (go_at_call 24; go_must (refine C0.out.mono ?_; rintro y w1 ⟨p, v, rfl, hp, hr, hb⟩; have H1 := Lib.hid (And.intro hr hb); have HP := Lib.hid hp; clear hr hb hp))
  obtain ⟨w2, gr, hW2, hgr, hb2, hq2, hsz2⟩ := one_box w1 (.cells #[.pointer (some ⟨p, 0, none⟩)] 49)
  rw [← hW2, ← hgr]
  have HD := Lib.hid (show DK W0 p gr w2 v b 0 from ⟨H1.out.2.trans (hb2.mono H1.out.2.size), H1.out.1.below hb2 H1.out.1.lt, hq2, HP.out, by rw [hgr]; exact H1.out.1.lt⟩)
  clear hW2 hgr hb2 hq2 hsz2 H1 HP C0
  go_cut [6] (fun s6 W => ∃ (gm : Nat) (Ad : Option Addr) (cd : Nat) (v' : Value) (V : World), V = W ∧ s6 = .pointer (some ⟨gm, 0, none⟩) ∧ gr < gm ∧ DK W0 p gr V v' s11 k11 ∧ N12 V gm (.int .i64 (v1 : Int)) (.int .i64 (v2 : Int)) (.int .i64 (v3 : Int)) (.int .i64 (v4 : Int)) (.int .i64 (v5 : Int)) (.int .i64 (v6 : Int)) (.int .i64 (v7 : Int)) (.int .i64 (v8 : Int)) (.bool v9) (.int .i64 (v10 : Int)) (.slice Ad n11 cd) (.slice none 0 0) ∧ SlT V (Tq W0 p gm V) (.slice Ad n11 cd) v11)
  case first =>
    have hd0 : w2.drew.heap[gr]? = some (.cells #[.pointer (some ⟨p, 0, none⟩)] 49 (0, 0)) := HD.out.cel
    refine wp_region_held_drew (S := fun W => W.heap[gr]? = some (.cells #[.pointer (some ⟨p, 0, none⟩)] 49 (0, 0))) (by kernel_rfl) hd0 (fun hHeld => ?_)
    obtain ⟨u0, hu0⟩ : ∃ V, V = w2.drew := ⟨_, rfl⟩
    have hd := HD.out.more (W' := w2.drew) (Below.refl _ _).drew
    rw [← hu0] at hd hHeld ⊢
    have HD := Lib.hid hd
    clear hd hd0 hu0
    refine wpAnyH_take (i := 0) (oi := { dst := Option.some 12, op := Op.move (Operand.tmp 5), type := 53, pos := "bytes.go:34", after := #[], guard := Option.none }) (v := .func (.func 25) #[] #[.pointer (some ⟨gr, 0, none⟩)]) rfl (by kernel_rfl) (by kernel_rfl) (by kernel_rfl) (fun _ _ _ h => h) (Or.inl ⟨by rfl, ?_⟩) hHeld ?_
    · intro W hSw
      go_simp
    simp only [Act.put, List.setIfInBounds_toArray, List.set_cons_zero, List.set_cons_succ]
    refine wpAnyH_take (i := 2) (oi := { dst := Option.some 14, op := Op.move (Operand.tmp 5), type := 53, pos := "bytes.go:34", after := #[], guard := Option.none }) (v := .func (.func 25) #[] #[.pointer (some ⟨gr, 0, none⟩)]) rfl (by kernel_rfl) (by kernel_rfl) (by kernel_rfl) (fun _ _ _ h => h) (Or.inl ⟨by rfl, ?_⟩) hHeld ?_
    · intro W hSw
      go_simp
    simp only [Act.put, List.setIfInBounds_toArray, List.set_cons_zero, List.set_cons_succ]
    refine wpAnyH_take (i := 4) (oi := { dst := Option.some 16, op := Op.move (Operand.tmp 5), type := 53, pos := "bytes.go:34", after := #[], guard := Option.none }) (v := .func (.func 25) #[] #[.pointer (some ⟨gr, 0, none⟩)]) rfl (by kernel_rfl) (by kernel_rfl) (by kernel_rfl) (fun _ _ _ h => h) (Or.inl ⟨by rfl, ?_⟩) hHeld ?_
    · intro W hSw
      go_simp
    simp only [Act.put, List.setIfInBounds_toArray, List.set_cons_zero, List.set_cons_succ]
    refine wpAnyH_take (i := 6) (oi := { dst := Option.some 18, op := Op.move (Operand.tmp 5), type := 53, pos := "bytes.go:34", after := #[], guard := Option.none }) (v := .func (.func 25) #[] #[.pointer (some ⟨gr, 0, none⟩)]) rfl (by kernel_rfl) (by kernel_rfl) (by kernel_rfl) (fun _ _ _ h => h) (Or.inl ⟨by rfl, ?_⟩) hHeld ?_
    · intro W hSw
      go_simp
    simp only [Act.put, List.setIfInBounds_toArray, List.set_cons_zero, List.set_cons_succ]
    refine wpAnyH_take (i := 8) (oi := { dst := Option.some 20, op := Op.move (Operand.tmp 5), type := 53, pos := "bytes.go:34", after := #[], guard := Option.none }) (v := .func (.func 25) #[] #[.pointer (some ⟨gr, 0, none⟩)]) rfl (by kernel_rfl) (by kernel_rfl) (by kernel_rfl) (fun _ _ _ h => h) (Or.inl ⟨by rfl, ?_⟩) hHeld ?_
    · intro W hSw
      go_simp
    simp only [Act.put, List.setIfInBounds_toArray, List.set_cons_zero, List.set_cons_succ]
    refine wpAnyH_take (i := 10) (oi := { dst := Option.some 22, op := Op.move (Operand.tmp 5), type := 53, pos := "bytes.go:34", after := #[], guard := Option.none }) (v := .func (.func 25) #[] #[.pointer (some ⟨gr, 0, none⟩)]) rfl (by kernel_rfl) (by kernel_rfl) (by kernel_rfl) (fun _ _ _ h => h) (Or.inl ⟨by rfl, ?_⟩) hHeld ?_
    · intro W hSw
      go_simp
    simp only [Act.put, List.setIfInBounds_toArray, List.set_cons_zero, List.set_cons_succ]
    refine wpAnyH_take (i := 12) (oi := { dst := Option.some 24, op := Op.move (Operand.tmp 5), type := 53, pos := "bytes.go:34", after := #[], guard := Option.none }) (v := .func (.func 25) #[] #[.pointer (some ⟨gr, 0, none⟩)]) rfl (by kernel_rfl) (by kernel_rfl) (by kernel_rfl) (fun _ _ _ h => h) (Or.inl ⟨by rfl, ?_⟩) hHeld ?_
    · intro W hSw
      go_simp
    simp only [Act.put, List.setIfInBounds_toArray, List.set_cons_zero, List.set_cons_succ]
    refine wpAnyH_take (i := 14) (oi := { dst := Option.some 26, op := Op.move (Operand.tmp 5), type := 53, pos := "bytes.go:34", after := #[], guard := Option.none }) (v := .func (.func 25) #[] #[.pointer (some ⟨gr, 0, none⟩)]) rfl (by kernel_rfl) (by kernel_rfl) (by kernel_rfl) (fun _ _ _ h => h) (Or.inl ⟨by rfl, ?_⟩) hHeld ?_
    · intro W hSw
      go_simp
    simp only [Act.put, List.setIfInBounds_toArray, List.set_cons_zero, List.set_cons_succ]
    refine wpAnyH_take (i := 18) (oi := { dst := Option.some 30, op := Op.move (Operand.tmp 5), type := 53, pos := "bytes.go:34", after := #[], guard := Option.none }) (v := .func (.func 25) #[] #[.pointer (some ⟨gr, 0, none⟩)]) rfl (by kernel_rfl) (by kernel_rfl) (by kernel_rfl) (fun _ _ _ h => h) (Or.inl ⟨by rfl, ?_⟩) hHeld ?_
    · intro W hSw
      go_simp
    simp only [Act.put, List.setIfInBounds_toArray, List.set_cons_zero, List.set_cons_succ]
    refine wpAnyH_take (i := 16) (oi := { dst := Option.some 28, op := Op.load 49 (Operand.tmp 4), type := 49, pos := "bytes.go:34", after := #[], guard := Option.none }) (v := .pointer (some ⟨p, 0, none⟩)) rfl (by kernel_rfl) (by kernel_rfl) (by kernel_rfl) (fun _ _ _ h => h) (Or.inl ⟨by rfl, ?_⟩) hHeld ?_
    · intro W hSw
      have hc := cell_at hSw
      go_simp
    simp only [Act.put, List.setIfInBounds_toArray, List.set_cons_zero, List.set_cons_succ]
    refine wpAnyH_take (i := 20) (oi := { dst := Option.some 32, op := Op.load 49 (Operand.tmp 4), type := 49, pos := "bytes.go:34", after := #[], guard := Option.none }) (v := .pointer (some ⟨p, 0, none⟩)) rfl (by kernel_rfl) (by kernel_rfl) (by kernel_rfl) (fun _ _ _ h => h) (Or.inl ⟨by rfl, ?_⟩) hHeld ?_
    · intro W hSw
      have hc := cell_at hSw
      go_simp
    simp only [Act.put, List.setIfInBounds_toArray, List.set_cons_zero, List.set_cons_succ]
    try simp only [Act.put, List.setIfInBounds_toArray, List.set_cons_zero, List.set_cons_succ]
    refine wpAnyH_ready (rs := [1, 23]) (by kernel_rfl) (by simp) ?_
    refine AllReadyH.cons (o := { dst := Option.some 13, op := Op.call { callee := Callee.value (Operand.tmp 12), args := #[], argTypes := #[] }, type := 3, pos := "bytes.go:35", after := #[{ on := 0, ground := Ground.data }], guard := Option.none }) rfl (fun K hK => ?_) (AllReadyH.cons (o := { dst := Option.some 6, op := Op.alloc 30, type := 0, pos := "bytes.go:34", after := #[], guard := Option.none }) rfl (fun K hK => ?_) AllReadyH.nil)
    rotate_left
    focus
      refine step_op' rfl ?_
      go_simp
      have hq := heap_alloc_new u0 (.cells #[.int .i64 0, .int .i64 0, .int .i64 0, .int .i64 0, .int .i64 0, .int .i64 0, .int .i64 0, .int .i64 0, .bool false, .int .i64 0, .slice none 0 0, .slice none 0 0] 30)
      have hsb := below_alloc u0 (.cells #[.int .i64 0, .int .i64 0, .int .i64 0, .int .i64 0, .int .i64 0, .int .i64 0, .int .i64 0, .int .i64 0, .bool false, .int .i64 0, .slice none 0 0, .slice none 0 0] 30)
      have hd := HD.out.more hsb
      have hgl := HD.out.lt
      refine hK.out _ _ hd.cel (fun hHeld2 => ?_)
      clear hK K hHeld
      have hHeld := hHeld2
      clear hHeld2
      try simp only [Act.put, List.setIfInBounds_toArray, List.set_cons_zero, List.set_cons_succ]
      obtain ⟨u78, hVN⟩ : ∃ W, W = u0.alloc (.cells #[.int .i64 0, .int .i64 0, .int .i64 0, .int .i64 0, .int .i64 0, .int .i64 0, .int .i64 0, .int .i64 0, .bool false, .int .i64 0, .slice none 0 0, .slice none 0 0] 30) := ⟨_, rfl⟩
      obtain ⟨gm, hgm⟩ : ∃ g, g = u0.heap.size := ⟨_, rfl⟩
      rw [← hVN] at hq hsb hd hHeld ⊢
      rw [← hgm] at hq hgl ⊢
      have EQ := Lib.hid (And.intro (show N12 u78 gm (.int .i64 0) (.int .i64 0) (.int .i64 0) (.int .i64 0) (.int .i64 0) (.int .i64 0) (.int .i64 0) (.int .i64 0) (.bool false) (.int .i64 0) (.slice none 0 0) (.slice none 0 0) from hq) hgl)
      have EQ0 := Lib.hid (obj_lt hq)
      have HD := Lib.hid hd
      clear hq hsb hd hgl hVN hgm
      refine wpAnyH_ready (rs := [1]) (by kernel_rfl) (by simp) ?_
      refine AllReadyH.cons (o := { dst := Option.some 13, op := Op.call { callee := Callee.value (Operand.tmp 12), args := #[], argTypes := #[] }, type := 3, pos := "bytes.go:35", after := #[{ on := 0, ground := Ground.data }], guard := Option.none }) rfl (fun K hK => ?_) AllReadyH.nil
      refine step_fun rfl _ _ _ rfl 25 _ rfl #[.pointer (some ⟨gr, 0, none⟩)] rfl e25 (C1.out p gr _ _ (HS.out _ HD.out.bel) HD.out.cell HD.out.rd) ?_
      rintro y u79 ⟨v', rfl, hr, hg⟩
      refine ⟨_, rfl, ?_⟩
      have hd := DK.read HD.out hr hg
      refine hK.out _ _ hd.cel (fun hHeld2 => ?_)
      clear hK K hHeld
      have hHeld := hHeld2
      clear hHeld2
      try simp only [Act.put, List.setIfInBounds_toArray, List.set_cons_zero, List.set_cons_succ]
      have EQ := Lib.hid (And.intro (EQ.out.1.to (hg.block gm EQ.out.1.lt (by intro e; injection e with e; have := EQ.out.2; have := HD.out.hgr; omega))) EQ.out.2)
      have HD := Lib.hid hd
      clear hd hr hg
      refine wpAnyH_ready (rs := [3]) (by kernel_rfl) (by simp) ?_
      refine AllReadyH.cons (o := { dst := Option.some 15, op := Op.call { callee := Callee.value (Operand.tmp 14), args := #[], argTypes := #[] }, type := 3, pos := "bytes.go:36", after := #[{ on := 2, ground := Ground.data }, { on := 1, ground := Ground.chain }], guard := Option.none }) rfl (fun K hK => ?_) AllReadyH.nil
      refine step_fun rfl _ _ _ rfl 25 _ rfl #[.pointer (some ⟨gr, 0, none⟩)] rfl e25 (C2.out p gr _ _ (HS.out _ HD.out.bel) HD.out.cell HD.out.rd) ?_
      rintro y u80 ⟨v', rfl, hr, hg⟩
      refine ⟨_, rfl, ?_⟩
      have hd := DK.read HD.out hr hg
      refine hK.out _ _ hd.cel (fun hHeld2 => ?_)
      clear hK K hHeld
      have hHeld := hHeld2
      clear hHeld2
      try simp only [Act.put, List.setIfInBounds_toArray, List.set_cons_zero, List.set_cons_succ]
      have EQ := Lib.hid (And.intro (EQ.out.1.to (hg.block gm EQ.out.1.lt (by intro e; injection e with e; have := EQ.out.2; have := HD.out.hgr; omega))) EQ.out.2)
      have HD := Lib.hid hd
      clear hd hr hg
      refine wpAnyH_ready (rs := [5]) (by kernel_rfl) (by simp) ?_
      refine AllReadyH.cons (o := { dst := Option.some 17, op := Op.call { callee := Callee.value (Operand.tmp 16), args := #[], argTypes := #[] }, type := 3, pos := "bytes.go:37", after := #[{ on := 4, ground := Ground.data }, { on := 3, ground := Ground.chain }], guard := Option.none }) rfl (fun K hK => ?_) AllReadyH.nil
      refine step_fun rfl _ _ _ rfl 25 _ rfl #[.pointer (some ⟨gr, 0, none⟩)] rfl e25 (C3.out p gr _ _ (HS.out _ HD.out.bel) HD.out.cell HD.out.rd) ?_
      rintro y u81 ⟨v', rfl, hr, hg⟩
      refine ⟨_, rfl, ?_⟩
      have hd := DK.read HD.out hr hg
      refine hK.out _ _ hd.cel (fun hHeld2 => ?_)
      clear hK K hHeld
      have hHeld := hHeld2
      clear hHeld2
      try simp only [Act.put, List.setIfInBounds_toArray, List.set_cons_zero, List.set_cons_succ]
      have EQ := Lib.hid (And.intro (EQ.out.1.to (hg.block gm EQ.out.1.lt (by intro e; injection e with e; have := EQ.out.2; have := HD.out.hgr; omega))) EQ.out.2)
      have HD := Lib.hid hd
      clear hd hr hg
      refine wpAnyH_ready (rs := [7]) (by kernel_rfl) (by simp) ?_
      refine AllReadyH.cons (o := { dst := Option.some 19, op := Op.call { callee := Callee.value (Operand.tmp 18), args := #[], argTypes := #[] }, type := 3, pos := "bytes.go:38", after := #[{ on := 6, ground := Ground.data }, { on := 5, ground := Ground.chain }], guard := Option.none }) rfl (fun K hK => ?_) AllReadyH.nil
      refine step_fun rfl _ _ _ rfl 25 _ rfl #[.pointer (some ⟨gr, 0, none⟩)] rfl e25 (C4.out p gr _ _ (HS.out _ HD.out.bel) HD.out.cell HD.out.rd) ?_
      rintro y u82 ⟨v', rfl, hr, hg⟩
      refine ⟨_, rfl, ?_⟩
      have hd := DK.read HD.out hr hg
      refine hK.out _ _ hd.cel (fun hHeld2 => ?_)
      clear hK K hHeld
      have hHeld := hHeld2
      clear hHeld2
      try simp only [Act.put, List.setIfInBounds_toArray, List.set_cons_zero, List.set_cons_succ]
      have EQ := Lib.hid (And.intro (EQ.out.1.to (hg.block gm EQ.out.1.lt (by intro e; injection e with e; have := EQ.out.2; have := HD.out.hgr; omega))) EQ.out.2)
      have HD := Lib.hid hd
      clear hd hr hg
      refine wpAnyH_ready (rs := [9]) (by kernel_rfl) (by simp) ?_
      refine AllReadyH.cons (o := { dst := Option.some 21, op := Op.call { callee := Callee.value (Operand.tmp 20), args := #[], argTypes := #[] }, type := 3, pos := "bytes.go:39", after := #[{ on := 8, ground := Ground.data }, { on := 7, ground := Ground.chain }], guard := Option.none }) rfl (fun K hK => ?_) AllReadyH.nil
      refine step_fun rfl _ _ _ rfl 25 _ rfl #[.pointer (some ⟨gr, 0, none⟩)] rfl e25 (C5.out p gr _ _ (HS.out _ HD.out.bel) HD.out.cell HD.out.rd) ?_
      rintro y u83 ⟨v', rfl, hr, hg⟩
      refine ⟨_, rfl, ?_⟩
      have hd := DK.read HD.out hr hg
      refine hK.out _ _ hd.cel (fun hHeld2 => ?_)
      clear hK K hHeld
      have hHeld := hHeld2
      clear hHeld2
      try simp only [Act.put, List.setIfInBounds_toArray, List.set_cons_zero, List.set_cons_succ]
      have EQ := Lib.hid (And.intro (EQ.out.1.to (hg.block gm EQ.out.1.lt (by intro e; injection e with e; have := EQ.out.2; have := HD.out.hgr; omega))) EQ.out.2)
      have HD := Lib.hid hd
      clear hd hr hg
      refine wpAnyH_ready (rs := [11]) (by kernel_rfl) (by simp) ?_
      refine AllReadyH.cons (o := { dst := Option.some 23, op := Op.call { callee := Callee.value (Operand.tmp 22), args := #[], argTypes := #[] }, type := 3, pos := "bytes.go:40", after := #[{ on := 10, ground := Ground.data }, { on := 9, ground := Ground.chain }], guard := Option.none }) rfl (fun K hK => ?_) AllReadyH.nil
      refine step_fun rfl _ _ _ rfl 25 _ rfl #[.pointer (some ⟨gr, 0, none⟩)] rfl e25 (C6.out p gr _ _ (HS.out _ HD.out.bel) HD.out.cell HD.out.rd) ?_
      rintro y u84 ⟨v', rfl, hr, hg⟩
      refine ⟨_, rfl, ?_⟩
      have hd := DK.read HD.out hr hg
      refine hK.out _ _ hd.cel (fun hHeld2 => ?_)
      clear hK K hHeld
      have hHeld := hHeld2
      clear hHeld2
      try simp only [Act.put, List.setIfInBounds_toArray, List.set_cons_zero, List.set_cons_succ]
      have EQ := Lib.hid (And.intro (EQ.out.1.to (hg.block gm EQ.out.1.lt (by intro e; injection e with e; have := EQ.out.2; have := HD.out.hgr; omega))) EQ.out.2)
      have HD := Lib.hid hd
      clear hd hr hg
      refine wpAnyH_ready (rs := [13]) (by kernel_rfl) (by simp) ?_
      refine AllReadyH.cons (o := { dst := Option.some 25, op := Op.call { callee := Callee.value (Operand.tmp 24), args := #[], argTypes := #[] }, type := 3, pos := "bytes.go:41", after := #[{ on := 12, ground := Ground.data }, { on := 11, ground := Ground.chain }], guard := Option.none }) rfl (fun K hK => ?_) AllReadyH.nil
      refine step_fun rfl _ _ _ rfl 25 _ rfl #[.pointer (some ⟨gr, 0, none⟩)] rfl e25 (C7.out p gr _ _ (HS.out _ HD.out.bel) HD.out.cell HD.out.rd) ?_
      rintro y u85 ⟨v', rfl, hr, hg⟩
      refine ⟨_, rfl, ?_⟩
      have hd := DK.read HD.out hr hg
      refine hK.out _ _ hd.cel (fun hHeld2 => ?_)
      clear hK K hHeld
      have hHeld := hHeld2
      clear hHeld2
      try simp only [Act.put, List.setIfInBounds_toArray, List.set_cons_zero, List.set_cons_succ]
      have EQ := Lib.hid (And.intro (EQ.out.1.to (hg.block gm EQ.out.1.lt (by intro e; injection e with e; have := EQ.out.2; have := HD.out.hgr; omega))) EQ.out.2)
      have HD := Lib.hid hd
      clear hd hr hg
      refine wpAnyH_ready (rs := [15]) (by kernel_rfl) (by simp) ?_
      refine AllReadyH.cons (o := { dst := Option.some 27, op := Op.call { callee := Callee.value (Operand.tmp 26), args := #[], argTypes := #[] }, type := 3, pos := "bytes.go:42", after := #[{ on := 14, ground := Ground.data }, { on := 13, ground := Ground.chain }], guard := Option.none }) rfl (fun K hK => ?_) AllReadyH.nil
      refine step_fun rfl _ _ _ rfl 25 _ rfl #[.pointer (some ⟨gr, 0, none⟩)] rfl e25 (C8.out p gr _ _ (HS.out _ HD.out.bel) HD.out.cell HD.out.rd) ?_
      rintro y u86 ⟨v', rfl, hr, hg⟩
      refine ⟨_, rfl, ?_⟩
      have hd := DK.read HD.out hr hg
      refine hK.out _ _ hd.cel (fun hHeld2 => ?_)
      clear hK K hHeld
      have hHeld := hHeld2
      clear hHeld2
      try simp only [Act.put, List.setIfInBounds_toArray, List.set_cons_zero, List.set_cons_succ]
      have EQ := Lib.hid (And.intro (EQ.out.1.to (hg.block gm EQ.out.1.lt (by intro e; injection e with e; have := EQ.out.2; have := HD.out.hgr; omega))) EQ.out.2)
      have HD := Lib.hid hd
      clear hd hr hg
      refine wpAnyH_ready (rs := [17]) (by kernel_rfl) (by simp) ?_
      refine AllReadyH.cons (o := { dst := Option.some 29, op := Op.call { callee := Callee.value (Operand.func 27), args := #[Operand.tmp 28], argTypes := #[49] }, type := 4, pos := "bytes.go:43", after := #[{ on := 16, ground := Ground.data }, { on := 15, ground := Ground.chain }], guard := Option.none }) rfl (fun K hK => ?_) AllReadyH.nil
      refine step_fun rfl _ _ _ rfl 27 _ rfl #[.pointer (some ⟨p, 0, none⟩)] rfl e27 (C9.out p _ _ HD.out.rd) ?_
      rintro y u87 ⟨v', rfl, hr, hg⟩
      refine ⟨_, rfl, ?_⟩
      have hd := DK.read HD.out hr hg
      refine hK.out _ _ hd.cel (fun hHeld2 => ?_)
      clear hK K hHeld
      have hHeld := hHeld2
      clear hHeld2
      try simp only [Act.put, List.setIfInBounds_toArray, List.set_cons_zero, List.set_cons_succ]
      have EQ := Lib.hid (And.intro (EQ.out.1.to (hg.block gm EQ.out.1.lt (by intro e; injection e with e; have := EQ.out.2; have := HD.out.hgr; omega))) EQ.out.2)
      have HD := Lib.hid hd
      clear hd hr hg
      refine wpAnyH_ready (rs := [19]) (by kernel_rfl) (by simp) ?_
      refine AllReadyH.cons (o := { dst := Option.some 31, op := Op.call { callee := Callee.value (Operand.tmp 30), args := #[], argTypes := #[] }, type := 3, pos := "bytes.go:44", after := #[{ on := 18, ground := Ground.data }, { on := 17, ground := Ground.chain }], guard := Option.none }) rfl (fun K hK => ?_) AllReadyH.nil
      refine step_fun rfl _ _ _ rfl 25 _ rfl #[.pointer (some ⟨gr, 0, none⟩)] rfl e25 (C10.out p gr _ _ (HS.out _ HD.out.bel) HD.out.cell HD.out.rd) ?_
      rintro y u88 ⟨v', rfl, hr, hg⟩
      refine ⟨_, rfl, ?_⟩
      have hd := DK.read HD.out hr hg
      refine hK.out _ _ hd.cel (fun hHeld2 => ?_)
      clear hK K hHeld
      have hHeld := hHeld2
      clear hHeld2
      try simp only [Act.put, List.setIfInBounds_toArray, List.set_cons_zero, List.set_cons_succ]
      have EQ := Lib.hid (And.intro (EQ.out.1.to (hg.block gm EQ.out.1.lt (by intro e; injection e with e; have := EQ.out.2; have := HD.out.hgr; omega))) EQ.out.2)
      have HD := Lib.hid hd
      clear hd hr hg
      have EQ0 := Lib.hid EQ.out.1.lt
      refine wpAnyH_ready (rs := [21]) (by kernel_rfl) (by simp) ?_
      refine AllReadyH.cons (o := { dst := Option.some 33, op := Op.call { callee := Callee.value (Operand.func 28), args := #[Operand.tmp 32, Operand.const (Value.int IntKind.i64 4096)], argTypes := #[49, 3] }, type := 22, pos := "bytes.go:45", after := #[{ on := 20, ground := Ground.data }, { on := 19, ground := Ground.chain }], guard := Option.none }) rfl (fun K hK => ?_) AllReadyH.nil
      refine step_fun rfl _ _ _ rfl 28 _ rfl #[.pointer (some ⟨p, 0, none⟩), .int .i64 4096] rfl e28 (C11.out p _ _ (HS.out _ HD.out.bel) HD.out.rd) ?_
      rintro y WF ⟨v', Ad, cd, rfl, hx, hr, hg⟩
      refine ⟨_, rfl, ?_⟩
      have hd := DK.read HD.out hr hg
      refine hK.out _ _ hd.cel (fun hHeld2 => ?_)
      clear hK K hHeld
      have hHeld := hHeld2
      clear hHeld2
      try simp only [Act.put, List.setIfInBounds_toArray, List.set_cons_zero, List.set_cons_succ]
      have EQ := Lib.hid (And.intro (EQ.out.1.to (hg.block gm EQ.out.1.lt (by intro e; injection e with e; have := EQ.out.2; have := HD.out.hgr; omega))) EQ.out.2)
      have XD := Lib.hid (hx.mono (T' := Tq W0 p gm WF) fun q hq => ⟨Nat.le_trans HD.out.bel.size hq.1, hq.2, by have := hq.1; have := HD.out.rd.lt; omega, by have := hq.1; have := EQ0.out; omega⟩)
      clear hx
      have HD := Lib.hid hd
      clear hd hr hg
      refine wpAnyH_take (i := 22) (oi := { dst := Option.some 34, op := Op.build 30 #[(0, Operand.tmp 13), (1, Operand.tmp 15), (2, Operand.tmp 17), (3, Operand.tmp 19), (4, Operand.tmp 21), (5, Operand.tmp 23), (6, Operand.tmp 25), (7, Operand.tmp 27), (8, Operand.tmp 29), (9, Operand.tmp 31), (10, Operand.tmp 33)], type := 30, pos := "bytes.go:34", after := #[{ on := 1, ground := Ground.data }, { on := 3, ground := Ground.data }, { on := 5, ground := Ground.data }, { on := 7, ground := Ground.data }, { on := 9, ground := Ground.data }, { on := 11, ground := Ground.data }, { on := 13, ground := Ground.data }, { on := 15, ground := Ground.data }, { on := 17, ground := Ground.data }, { on := 19, ground := Ground.data }, { on := 21, ground := Ground.data }], guard := Option.none }) (v := .agg #[.int .i64 (v1 : Int), .int .i64 (v2 : Int), .int .i64 (v3 : Int), .int .i64 (v4 : Int), .int .i64 (v5 : Int), .int .i64 (v6 : Int), .int .i64 (v7 : Int), .int .i64 (v8 : Int), .bool v9, .int .i64 (v10 : Int), .slice Ad n11 cd, .slice none 0 0]) rfl (by kernel_rfl) (by kernel_rfl) (by kernel_rfl) (fun _ _ _ h => h) (Or.inl ⟨by rfl, ?_⟩) hHeld ?_
      · intro W hSw
        go_simp
      simp only [Act.put, List.setIfInBounds_toArray, List.set_cons_zero, List.set_cons_succ]
    rotate_left
    focus
      refine step_fun rfl _ _ _ rfl 25 _ rfl #[.pointer (some ⟨gr, 0, none⟩)] rfl e25 (C1.out p gr _ _ (HS.out _ HD.out.bel) HD.out.cell HD.out.rd) ?_
      rintro y u1 ⟨v', rfl, hr, hg⟩
      refine ⟨_, rfl, ?_⟩
      have hd := DK.read HD.out hr hg
      refine hK.out _ _ hd.cel (fun hHeld2 => ?_)
      clear hK K hHeld
      have hHeld := hHeld2
      clear hHeld2
      try simp only [Act.put, List.setIfInBounds_toArray, List.set_cons_zero, List.set_cons_succ]
      have HD := Lib.hid hd
      clear hd hr hg
      refine wpAnyH_ready (rs := [3, 23]) (by kernel_rfl) (by simp) ?_
      refine AllReadyH.cons (o := { dst := Option.some 15, op := Op.call { callee := Callee.value (Operand.tmp 14), args := #[], argTypes := #[] }, type := 3, pos := "bytes.go:36", after := #[{ on := 2, ground := Ground.data }, { on := 1, ground := Ground.chain }], guard := Option.none }) rfl (fun K hK => ?_) (AllReadyH.cons (o := { dst := Option.some 6, op := Op.alloc 30, type := 0, pos := "bytes.go:34", after := #[], guard := Option.none }) rfl (fun K hK => ?_) AllReadyH.nil)
      rotate_left
      focus
        refine step_op' rfl ?_
        go_simp
        have hq := heap_alloc_new u1 (.cells #[.int .i64 0, .int .i64 0, .int .i64 0, .int .i64 0, .int .i64 0, .int .i64 0, .int .i64 0, .int .i64 0, .bool false, .int .i64 0, .slice none 0 0, .slice none 0 0] 30)
        have hsb := below_alloc u1 (.cells #[.int .i64 0, .int .i64 0, .int .i64 0, .int .i64 0, .int .i64 0, .int .i64 0, .int .i64 0, .int .i64 0, .bool false, .int .i64 0, .slice none 0 0, .slice none 0 0] 30)
        have hd := HD.out.more hsb
        have hgl := HD.out.lt
        refine hK.out _ _ hd.cel (fun hHeld2 => ?_)
        clear hK K hHeld
        have hHeld := hHeld2
        clear hHeld2
        try simp only [Act.put, List.setIfInBounds_toArray, List.set_cons_zero, List.set_cons_succ]
        obtain ⟨u67, hVN⟩ : ∃ W, W = u1.alloc (.cells #[.int .i64 0, .int .i64 0, .int .i64 0, .int .i64 0, .int .i64 0, .int .i64 0, .int .i64 0, .int .i64 0, .bool false, .int .i64 0, .slice none 0 0, .slice none 0 0] 30) := ⟨_, rfl⟩
        obtain ⟨gm, hgm⟩ : ∃ g, g = u1.heap.size := ⟨_, rfl⟩
        rw [← hVN] at hq hsb hd hHeld ⊢
        rw [← hgm] at hq hgl ⊢
        have EQ := Lib.hid (And.intro (show N12 u67 gm (.int .i64 0) (.int .i64 0) (.int .i64 0) (.int .i64 0) (.int .i64 0) (.int .i64 0) (.int .i64 0) (.int .i64 0) (.bool false) (.int .i64 0) (.slice none 0 0) (.slice none 0 0) from hq) hgl)
        have EQ0 := Lib.hid (obj_lt hq)
        have HD := Lib.hid hd
        clear hq hsb hd hgl hVN hgm
        refine wpAnyH_ready (rs := [3]) (by kernel_rfl) (by simp) ?_
        refine AllReadyH.cons (o := { dst := Option.some 15, op := Op.call { callee := Callee.value (Operand.tmp 14), args := #[], argTypes := #[] }, type := 3, pos := "bytes.go:36", after := #[{ on := 2, ground := Ground.data }, { on := 1, ground := Ground.chain }], guard := Option.none }) rfl (fun K hK => ?_) AllReadyH.nil
        refine step_fun rfl _ _ _ rfl 25 _ rfl #[.pointer (some ⟨gr, 0, none⟩)] rfl e25 (C2.out p gr _ _ (HS.out _ HD.out.bel) HD.out.cell HD.out.rd) ?_
        rintro y u68 ⟨v', rfl, hr, hg⟩
        refine ⟨_, rfl, ?_⟩
        have hd := DK.read HD.out hr hg
        refine hK.out _ _ hd.cel (fun hHeld2 => ?_)
        clear hK K hHeld
        have hHeld := hHeld2
        clear hHeld2
        try simp only [Act.put, List.setIfInBounds_toArray, List.set_cons_zero, List.set_cons_succ]
        have EQ := Lib.hid (And.intro (EQ.out.1.to (hg.block gm EQ.out.1.lt (by intro e; injection e with e; have := EQ.out.2; have := HD.out.hgr; omega))) EQ.out.2)
        have HD := Lib.hid hd
        clear hd hr hg
        refine wpAnyH_ready (rs := [5]) (by kernel_rfl) (by simp) ?_
        refine AllReadyH.cons (o := { dst := Option.some 17, op := Op.call { callee := Callee.value (Operand.tmp 16), args := #[], argTypes := #[] }, type := 3, pos := "bytes.go:37", after := #[{ on := 4, ground := Ground.data }, { on := 3, ground := Ground.chain }], guard := Option.none }) rfl (fun K hK => ?_) AllReadyH.nil
        refine step_fun rfl _ _ _ rfl 25 _ rfl #[.pointer (some ⟨gr, 0, none⟩)] rfl e25 (C3.out p gr _ _ (HS.out _ HD.out.bel) HD.out.cell HD.out.rd) ?_
        rintro y u69 ⟨v', rfl, hr, hg⟩
        refine ⟨_, rfl, ?_⟩
        have hd := DK.read HD.out hr hg
        refine hK.out _ _ hd.cel (fun hHeld2 => ?_)
        clear hK K hHeld
        have hHeld := hHeld2
        clear hHeld2
        try simp only [Act.put, List.setIfInBounds_toArray, List.set_cons_zero, List.set_cons_succ]
        have EQ := Lib.hid (And.intro (EQ.out.1.to (hg.block gm EQ.out.1.lt (by intro e; injection e with e; have := EQ.out.2; have := HD.out.hgr; omega))) EQ.out.2)
        have HD := Lib.hid hd
        clear hd hr hg
        refine wpAnyH_ready (rs := [7]) (by kernel_rfl) (by simp) ?_
        refine AllReadyH.cons (o := { dst := Option.some 19, op := Op.call { callee := Callee.value (Operand.tmp 18), args := #[], argTypes := #[] }, type := 3, pos := "bytes.go:38", after := #[{ on := 6, ground := Ground.data }, { on := 5, ground := Ground.chain }], guard := Option.none }) rfl (fun K hK => ?_) AllReadyH.nil
        refine step_fun rfl _ _ _ rfl 25 _ rfl #[.pointer (some ⟨gr, 0, none⟩)] rfl e25 (C4.out p gr _ _ (HS.out _ HD.out.bel) HD.out.cell HD.out.rd) ?_
        rintro y u70 ⟨v', rfl, hr, hg⟩
        refine ⟨_, rfl, ?_⟩
        have hd := DK.read HD.out hr hg
        refine hK.out _ _ hd.cel (fun hHeld2 => ?_)
        clear hK K hHeld
        have hHeld := hHeld2
        clear hHeld2
        try simp only [Act.put, List.setIfInBounds_toArray, List.set_cons_zero, List.set_cons_succ]
        have EQ := Lib.hid (And.intro (EQ.out.1.to (hg.block gm EQ.out.1.lt (by intro e; injection e with e; have := EQ.out.2; have := HD.out.hgr; omega))) EQ.out.2)
        have HD := Lib.hid hd
        clear hd hr hg
        refine wpAnyH_ready (rs := [9]) (by kernel_rfl) (by simp) ?_
        refine AllReadyH.cons (o := { dst := Option.some 21, op := Op.call { callee := Callee.value (Operand.tmp 20), args := #[], argTypes := #[] }, type := 3, pos := "bytes.go:39", after := #[{ on := 8, ground := Ground.data }, { on := 7, ground := Ground.chain }], guard := Option.none }) rfl (fun K hK => ?_) AllReadyH.nil
        refine step_fun rfl _ _ _ rfl 25 _ rfl #[.pointer (some ⟨gr, 0, none⟩)] rfl e25 (C5.out p gr _ _ (HS.out _ HD.out.bel) HD.out.cell HD.out.rd) ?_
        rintro y u71 ⟨v', rfl, hr, hg⟩
        refine ⟨_, rfl, ?_⟩
        have hd := DK.read HD.out hr hg
        refine hK.out _ _ hd.cel (fun hHeld2 => ?_)
        clear hK K hHeld
        have hHeld := hHeld2
        clear hHeld2
        try simp only [Act.put, List.setIfInBounds_toArray, List.set_cons_zero, List.set_cons_succ]
        have EQ := Lib.hid (And.intro (EQ.out.1.to (hg.block gm EQ.out.1.lt (by intro e; injection e with e; have := EQ.out.2; have := HD.out.hgr; omega))) EQ.out.2)
        have HD := Lib.hid hd
        clear hd hr hg
        refine wpAnyH_ready (rs := [11]) (by kernel_rfl) (by simp) ?_
        refine AllReadyH.cons (o := { dst := Option.some 23, op := Op.call { callee := Callee.value (Operand.tmp 22), args := #[], argTypes := #[] }, type := 3, pos := "bytes.go:40", after := #[{ on := 10, ground := Ground.data }, { on := 9, ground := Ground.chain }], guard := Option.none }) rfl (fun K hK => ?_) AllReadyH.nil
        refine step_fun rfl _ _ _ rfl 25 _ rfl #[.pointer (some ⟨gr, 0, none⟩)] rfl e25 (C6.out p gr _ _ (HS.out _ HD.out.bel) HD.out.cell HD.out.rd) ?_
        rintro y u72 ⟨v', rfl, hr, hg⟩
        refine ⟨_, rfl, ?_⟩
        have hd := DK.read HD.out hr hg
        refine hK.out _ _ hd.cel (fun hHeld2 => ?_)
        clear hK K hHeld
        have hHeld := hHeld2
        clear hHeld2
        try simp only [Act.put, List.setIfInBounds_toArray, List.set_cons_zero, List.set_cons_succ]
        have EQ := Lib.hid (And.intro (EQ.out.1.to (hg.block gm EQ.out.1.lt (by intro e; injection e with e; have := EQ.out.2; have := HD.out.hgr; omega))) EQ.out.2)
        have HD := Lib.hid hd
        clear hd hr hg
        refine wpAnyH_ready (rs := [13]) (by kernel_rfl) (by simp) ?_
        refine AllReadyH.cons (o := { dst := Option.some 25, op := Op.call { callee := Callee.value (Operand.tmp 24), args := #[], argTypes := #[] }, type := 3, pos := "bytes.go:41", after := #[{ on := 12, ground := Ground.data }, { on := 11, ground := Ground.chain }], guard := Option.none }) rfl (fun K hK => ?_) AllReadyH.nil
        refine step_fun rfl _ _ _ rfl 25 _ rfl #[.pointer (some ⟨gr, 0, none⟩)] rfl e25 (C7.out p gr _ _ (HS.out _ HD.out.bel) HD.out.cell HD.out.rd) ?_
        rintro y u73 ⟨v', rfl, hr, hg⟩
        refine ⟨_, rfl, ?_⟩
        have hd := DK.read HD.out hr hg
        refine hK.out _ _ hd.cel (fun hHeld2 => ?_)
        clear hK K hHeld
        have hHeld := hHeld2
        clear hHeld2
        try simp only [Act.put, List.setIfInBounds_toArray, List.set_cons_zero, List.set_cons_succ]
        have EQ := Lib.hid (And.intro (EQ.out.1.to (hg.block gm EQ.out.1.lt (by intro e; injection e with e; have := EQ.out.2; have := HD.out.hgr; omega))) EQ.out.2)
        have HD := Lib.hid hd
        clear hd hr hg
        refine wpAnyH_ready (rs := [15]) (by kernel_rfl) (by simp) ?_
        refine AllReadyH.cons (o := { dst := Option.some 27, op := Op.call { callee := Callee.value (Operand.tmp 26), args := #[], argTypes := #[] }, type := 3, pos := "bytes.go:42", after := #[{ on := 14, ground := Ground.data }, { on := 13, ground := Ground.chain }], guard := Option.none }) rfl (fun K hK => ?_) AllReadyH.nil
        refine step_fun rfl _ _ _ rfl 25 _ rfl #[.pointer (some ⟨gr, 0, none⟩)] rfl e25 (C8.out p gr _ _ (HS.out _ HD.out.bel) HD.out.cell HD.out.rd) ?_
        rintro y u74 ⟨v', rfl, hr, hg⟩
        refine ⟨_, rfl, ?_⟩
        have hd := DK.read HD.out hr hg
        refine hK.out _ _ hd.cel (fun hHeld2 => ?_)
        clear hK K hHeld
        have hHeld := hHeld2
        clear hHeld2
        try simp only [Act.put, List.setIfInBounds_toArray, List.set_cons_zero, List.set_cons_succ]
        have EQ := Lib.hid (And.intro (EQ.out.1.to (hg.block gm EQ.out.1.lt (by intro e; injection e with e; have := EQ.out.2; have := HD.out.hgr; omega))) EQ.out.2)
        have HD := Lib.hid hd
        clear hd hr hg
        refine wpAnyH_ready (rs := [17]) (by kernel_rfl) (by simp) ?_
        refine AllReadyH.cons (o := { dst := Option.some 29, op := Op.call { callee := Callee.value (Operand.func 27), args := #[Operand.tmp 28], argTypes := #[49] }, type := 4, pos := "bytes.go:43", after := #[{ on := 16, ground := Ground.data }, { on := 15, ground := Ground.chain }], guard := Option.none }) rfl (fun K hK => ?_) AllReadyH.nil
        refine step_fun rfl _ _ _ rfl 27 _ rfl #[.pointer (some ⟨p, 0, none⟩)] rfl e27 (C9.out p _ _ HD.out.rd) ?_
        rintro y u75 ⟨v', rfl, hr, hg⟩
        refine ⟨_, rfl, ?_⟩
        have hd := DK.read HD.out hr hg
        refine hK.out _ _ hd.cel (fun hHeld2 => ?_)
        clear hK K hHeld
        have hHeld := hHeld2
        clear hHeld2
        try simp only [Act.put, List.setIfInBounds_toArray, List.set_cons_zero, List.set_cons_succ]
        have EQ := Lib.hid (And.intro (EQ.out.1.to (hg.block gm EQ.out.1.lt (by intro e; injection e with e; have := EQ.out.2; have := HD.out.hgr; omega))) EQ.out.2)
        have HD := Lib.hid hd
        clear hd hr hg
        refine wpAnyH_ready (rs := [19]) (by kernel_rfl) (by simp) ?_
        refine AllReadyH.cons (o := { dst := Option.some 31, op := Op.call { callee := Callee.value (Operand.tmp 30), args := #[], argTypes := #[] }, type := 3, pos := "bytes.go:44", after := #[{ on := 18, ground := Ground.data }, { on := 17, ground := Ground.chain }], guard := Option.none }) rfl (fun K hK => ?_) AllReadyH.nil
        refine step_fun rfl _ _ _ rfl 25 _ rfl #[.pointer (some ⟨gr, 0, none⟩)] rfl e25 (C10.out p gr _ _ (HS.out _ HD.out.bel) HD.out.cell HD.out.rd) ?_
        rintro y u76 ⟨v', rfl, hr, hg⟩
        refine ⟨_, rfl, ?_⟩
        have hd := DK.read HD.out hr hg
        refine hK.out _ _ hd.cel (fun hHeld2 => ?_)
        clear hK K hHeld
        have hHeld := hHeld2
        clear hHeld2
        try simp only [Act.put, List.setIfInBounds_toArray, List.set_cons_zero, List.set_cons_succ]
        have EQ := Lib.hid (And.intro (EQ.out.1.to (hg.block gm EQ.out.1.lt (by intro e; injection e with e; have := EQ.out.2; have := HD.out.hgr; omega))) EQ.out.2)
        have HD := Lib.hid hd
        clear hd hr hg
        have EQ0 := Lib.hid EQ.out.1.lt
        refine wpAnyH_ready (rs := [21]) (by kernel_rfl) (by simp) ?_
        refine AllReadyH.cons (o := { dst := Option.some 33, op := Op.call { callee := Callee.value (Operand.func 28), args := #[Operand.tmp 32, Operand.const (Value.int IntKind.i64 4096)], argTypes := #[49, 3] }, type := 22, pos := "bytes.go:45", after := #[{ on := 20, ground := Ground.data }, { on := 19, ground := Ground.chain }], guard := Option.none }) rfl (fun K hK => ?_) AllReadyH.nil
        refine step_fun rfl _ _ _ rfl 28 _ rfl #[.pointer (some ⟨p, 0, none⟩), .int .i64 4096] rfl e28 (C11.out p _ _ (HS.out _ HD.out.bel) HD.out.rd) ?_
        rintro y WF ⟨v', Ad, cd, rfl, hx, hr, hg⟩
        refine ⟨_, rfl, ?_⟩
        have hd := DK.read HD.out hr hg
        refine hK.out _ _ hd.cel (fun hHeld2 => ?_)
        clear hK K hHeld
        have hHeld := hHeld2
        clear hHeld2
        try simp only [Act.put, List.setIfInBounds_toArray, List.set_cons_zero, List.set_cons_succ]
        have EQ := Lib.hid (And.intro (EQ.out.1.to (hg.block gm EQ.out.1.lt (by intro e; injection e with e; have := EQ.out.2; have := HD.out.hgr; omega))) EQ.out.2)
        have XD := Lib.hid (hx.mono (T' := Tq W0 p gm WF) fun q hq => ⟨Nat.le_trans HD.out.bel.size hq.1, hq.2, by have := hq.1; have := HD.out.rd.lt; omega, by have := hq.1; have := EQ0.out; omega⟩)
        clear hx
        have HD := Lib.hid hd
        clear hd hr hg
        refine wpAnyH_take (i := 22) (oi := { dst := Option.some 34, op := Op.build 30 #[(0, Operand.tmp 13), (1, Operand.tmp 15), (2, Operand.tmp 17), (3, Operand.tmp 19), (4, Operand.tmp 21), (5, Operand.tmp 23), (6, Operand.tmp 25), (7, Operand.tmp 27), (8, Operand.tmp 29), (9, Operand.tmp 31), (10, Operand.tmp 33)], type := 30, pos := "bytes.go:34", after := #[{ on := 1, ground := Ground.data }, { on := 3, ground := Ground.data }, { on := 5, ground := Ground.data }, { on := 7, ground := Ground.data }, { on := 9, ground := Ground.data }, { on := 11, ground := Ground.data }, { on := 13, ground := Ground.data }, { on := 15, ground := Ground.data }, { on := 17, ground := Ground.data }, { on := 19, ground := Ground.data }, { on := 21, ground := Ground.data }], guard := Option.none }) (v := .agg #[.int .i64 (v1 : Int), .int .i64 (v2 : Int), .int .i64 (v3 : Int), .int .i64 (v4 : Int), .int .i64 (v5 : Int), .int .i64 (v6 : Int), .int .i64 (v7 : Int), .int .i64 (v8 : Int), .bool v9, .int .i64 (v10 : Int), .slice Ad n11 cd, .slice none 0 0]) rfl (by kernel_rfl) (by kernel_rfl) (by kernel_rfl) (fun _ _ _ h => h) (Or.inl ⟨by rfl, ?_⟩) hHeld ?_
        · intro W hSw
          go_simp
        simp only [Act.put, List.setIfInBounds_toArray, List.set_cons_zero, List.set_cons_succ]
      rotate_left
      focus
        refine step_fun rfl _ _ _ rfl 25 _ rfl #[.pointer (some ⟨gr, 0, none⟩)] rfl e25 (C2.out p gr _ _ (HS.out _ HD.out.bel) HD.out.cell HD.out.rd) ?_
        rintro y u2 ⟨v', rfl, hr, hg⟩
        refine ⟨_, rfl, ?_⟩
        have hd := DK.read HD.out hr hg
        refine hK.out _ _ hd.cel (fun hHeld2 => ?_)
        clear hK K hHeld
        have hHeld := hHeld2
        clear hHeld2
        try simp only [Act.put, List.setIfInBounds_toArray, List.set_cons_zero, List.set_cons_succ]
        have HD := Lib.hid hd
        clear hd hr hg
        refine wpAnyH_ready (rs := [5, 23]) (by kernel_rfl) (by simp) ?_
        refine AllReadyH.cons (o := { dst := Option.some 17, op := Op.call { callee := Callee.value (Operand.tmp 16), args := #[], argTypes := #[] }, type := 3, pos := "bytes.go:37", after := #[{ on := 4, ground := Ground.data }, { on := 3, ground := Ground.chain }], guard := Option.none }) rfl (fun K hK => ?_) (AllReadyH.cons (o := { dst := Option.some 6, op := Op.alloc 30, type := 0, pos := "bytes.go:34", after := #[], guard := Option.none }) rfl (fun K hK => ?_) AllReadyH.nil)
        rotate_left
        focus
          refine step_op' rfl ?_
          go_simp
          have hq := heap_alloc_new u2 (.cells #[.int .i64 0, .int .i64 0, .int .i64 0, .int .i64 0, .int .i64 0, .int .i64 0, .int .i64 0, .int .i64 0, .bool false, .int .i64 0, .slice none 0 0, .slice none 0 0] 30)
          have hsb := below_alloc u2 (.cells #[.int .i64 0, .int .i64 0, .int .i64 0, .int .i64 0, .int .i64 0, .int .i64 0, .int .i64 0, .int .i64 0, .bool false, .int .i64 0, .slice none 0 0, .slice none 0 0] 30)
          have hd := HD.out.more hsb
          have hgl := HD.out.lt
          refine hK.out _ _ hd.cel (fun hHeld2 => ?_)
          clear hK K hHeld
          have hHeld := hHeld2
          clear hHeld2
          try simp only [Act.put, List.setIfInBounds_toArray, List.set_cons_zero, List.set_cons_succ]
          obtain ⟨u57, hVN⟩ : ∃ W, W = u2.alloc (.cells #[.int .i64 0, .int .i64 0, .int .i64 0, .int .i64 0, .int .i64 0, .int .i64 0, .int .i64 0, .int .i64 0, .bool false, .int .i64 0, .slice none 0 0, .slice none 0 0] 30) := ⟨_, rfl⟩
          obtain ⟨gm, hgm⟩ : ∃ g, g = u2.heap.size := ⟨_, rfl⟩
          rw [← hVN] at hq hsb hd hHeld ⊢
          rw [← hgm] at hq hgl ⊢
          have EQ := Lib.hid (And.intro (show N12 u57 gm (.int .i64 0) (.int .i64 0) (.int .i64 0) (.int .i64 0) (.int .i64 0) (.int .i64 0) (.int .i64 0) (.int .i64 0) (.bool false) (.int .i64 0) (.slice none 0 0) (.slice none 0 0) from hq) hgl)
          have EQ0 := Lib.hid (obj_lt hq)
          have HD := Lib.hid hd
          clear hq hsb hd hgl hVN hgm
          refine wpAnyH_ready (rs := [5]) (by kernel_rfl) (by simp) ?_
          refine AllReadyH.cons (o := { dst := Option.some 17, op := Op.call { callee := Callee.value (Operand.tmp 16), args := #[], argTypes := #[] }, type := 3, pos := "bytes.go:37", after := #[{ on := 4, ground := Ground.data }, { on := 3, ground := Ground.chain }], guard := Option.none }) rfl (fun K hK => ?_) AllReadyH.nil
          refine step_fun rfl _ _ _ rfl 25 _ rfl #[.pointer (some ⟨gr, 0, none⟩)] rfl e25 (C3.out p gr _ _ (HS.out _ HD.out.bel) HD.out.cell HD.out.rd) ?_
          rintro y u58 ⟨v', rfl, hr, hg⟩
          refine ⟨_, rfl, ?_⟩
          have hd := DK.read HD.out hr hg
          refine hK.out _ _ hd.cel (fun hHeld2 => ?_)
          clear hK K hHeld
          have hHeld := hHeld2
          clear hHeld2
          try simp only [Act.put, List.setIfInBounds_toArray, List.set_cons_zero, List.set_cons_succ]
          have EQ := Lib.hid (And.intro (EQ.out.1.to (hg.block gm EQ.out.1.lt (by intro e; injection e with e; have := EQ.out.2; have := HD.out.hgr; omega))) EQ.out.2)
          have HD := Lib.hid hd
          clear hd hr hg
          refine wpAnyH_ready (rs := [7]) (by kernel_rfl) (by simp) ?_
          refine AllReadyH.cons (o := { dst := Option.some 19, op := Op.call { callee := Callee.value (Operand.tmp 18), args := #[], argTypes := #[] }, type := 3, pos := "bytes.go:38", after := #[{ on := 6, ground := Ground.data }, { on := 5, ground := Ground.chain }], guard := Option.none }) rfl (fun K hK => ?_) AllReadyH.nil
          refine step_fun rfl _ _ _ rfl 25 _ rfl #[.pointer (some ⟨gr, 0, none⟩)] rfl e25 (C4.out p gr _ _ (HS.out _ HD.out.bel) HD.out.cell HD.out.rd) ?_
          rintro y u59 ⟨v', rfl, hr, hg⟩
          refine ⟨_, rfl, ?_⟩
          have hd := DK.read HD.out hr hg
          refine hK.out _ _ hd.cel (fun hHeld2 => ?_)
          clear hK K hHeld
          have hHeld := hHeld2
          clear hHeld2
          try simp only [Act.put, List.setIfInBounds_toArray, List.set_cons_zero, List.set_cons_succ]
          have EQ := Lib.hid (And.intro (EQ.out.1.to (hg.block gm EQ.out.1.lt (by intro e; injection e with e; have := EQ.out.2; have := HD.out.hgr; omega))) EQ.out.2)
          have HD := Lib.hid hd
          clear hd hr hg
          refine wpAnyH_ready (rs := [9]) (by kernel_rfl) (by simp) ?_
          refine AllReadyH.cons (o := { dst := Option.some 21, op := Op.call { callee := Callee.value (Operand.tmp 20), args := #[], argTypes := #[] }, type := 3, pos := "bytes.go:39", after := #[{ on := 8, ground := Ground.data }, { on := 7, ground := Ground.chain }], guard := Option.none }) rfl (fun K hK => ?_) AllReadyH.nil
          refine step_fun rfl _ _ _ rfl 25 _ rfl #[.pointer (some ⟨gr, 0, none⟩)] rfl e25 (C5.out p gr _ _ (HS.out _ HD.out.bel) HD.out.cell HD.out.rd) ?_
          rintro y u60 ⟨v', rfl, hr, hg⟩
          refine ⟨_, rfl, ?_⟩
          have hd := DK.read HD.out hr hg
          refine hK.out _ _ hd.cel (fun hHeld2 => ?_)
          clear hK K hHeld
          have hHeld := hHeld2
          clear hHeld2
          try simp only [Act.put, List.setIfInBounds_toArray, List.set_cons_zero, List.set_cons_succ]
          have EQ := Lib.hid (And.intro (EQ.out.1.to (hg.block gm EQ.out.1.lt (by intro e; injection e with e; have := EQ.out.2; have := HD.out.hgr; omega))) EQ.out.2)
          have HD := Lib.hid hd
          clear hd hr hg
          refine wpAnyH_ready (rs := [11]) (by kernel_rfl) (by simp) ?_
          refine AllReadyH.cons (o := { dst := Option.some 23, op := Op.call { callee := Callee.value (Operand.tmp 22), args := #[], argTypes := #[] }, type := 3, pos := "bytes.go:40", after := #[{ on := 10, ground := Ground.data }, { on := 9, ground := Ground.chain }], guard := Option.none }) rfl (fun K hK => ?_) AllReadyH.nil
          refine step_fun rfl _ _ _ rfl 25 _ rfl #[.pointer (some ⟨gr, 0, none⟩)] rfl e25 (C6.out p gr _ _ (HS.out _ HD.out.bel) HD.out.cell HD.out.rd) ?_
          rintro y u61 ⟨v', rfl, hr, hg⟩
          refine ⟨_, rfl, ?_⟩
          have hd := DK.read HD.out hr hg
          refine hK.out _ _ hd.cel (fun hHeld2 => ?_)
          clear hK K hHeld
          have hHeld := hHeld2
          clear hHeld2
          try simp only [Act.put, List.setIfInBounds_toArray, List.set_cons_zero, List.set_cons_succ]
          have EQ := Lib.hid (And.intro (EQ.out.1.to (hg.block gm EQ.out.1.lt (by intro e; injection e with e; have := EQ.out.2; have := HD.out.hgr; omega))) EQ.out.2)
          have HD := Lib.hid hd
          clear hd hr hg
          refine wpAnyH_ready (rs := [13]) (by kernel_rfl) (by simp) ?_
          refine AllReadyH.cons (o := { dst := Option.some 25, op := Op.call { callee := Callee.value (Operand.tmp 24), args := #[], argTypes := #[] }, type := 3, pos := "bytes.go:41", after := #[{ on := 12, ground := Ground.data }, { on := 11, ground := Ground.chain }], guard := Option.none }) rfl (fun K hK => ?_) AllReadyH.nil
          refine step_fun rfl _ _ _ rfl 25 _ rfl #[.pointer (some ⟨gr, 0, none⟩)] rfl e25 (C7.out p gr _ _ (HS.out _ HD.out.bel) HD.out.cell HD.out.rd) ?_
          rintro y u62 ⟨v', rfl, hr, hg⟩
          refine ⟨_, rfl, ?_⟩
          have hd := DK.read HD.out hr hg
          refine hK.out _ _ hd.cel (fun hHeld2 => ?_)
          clear hK K hHeld
          have hHeld := hHeld2
          clear hHeld2
          try simp only [Act.put, List.setIfInBounds_toArray, List.set_cons_zero, List.set_cons_succ]
          have EQ := Lib.hid (And.intro (EQ.out.1.to (hg.block gm EQ.out.1.lt (by intro e; injection e with e; have := EQ.out.2; have := HD.out.hgr; omega))) EQ.out.2)
          have HD := Lib.hid hd
          clear hd hr hg
          refine wpAnyH_ready (rs := [15]) (by kernel_rfl) (by simp) ?_
          refine AllReadyH.cons (o := { dst := Option.some 27, op := Op.call { callee := Callee.value (Operand.tmp 26), args := #[], argTypes := #[] }, type := 3, pos := "bytes.go:42", after := #[{ on := 14, ground := Ground.data }, { on := 13, ground := Ground.chain }], guard := Option.none }) rfl (fun K hK => ?_) AllReadyH.nil
          refine step_fun rfl _ _ _ rfl 25 _ rfl #[.pointer (some ⟨gr, 0, none⟩)] rfl e25 (C8.out p gr _ _ (HS.out _ HD.out.bel) HD.out.cell HD.out.rd) ?_
          rintro y u63 ⟨v', rfl, hr, hg⟩
          refine ⟨_, rfl, ?_⟩
          have hd := DK.read HD.out hr hg
          refine hK.out _ _ hd.cel (fun hHeld2 => ?_)
          clear hK K hHeld
          have hHeld := hHeld2
          clear hHeld2
          try simp only [Act.put, List.setIfInBounds_toArray, List.set_cons_zero, List.set_cons_succ]
          have EQ := Lib.hid (And.intro (EQ.out.1.to (hg.block gm EQ.out.1.lt (by intro e; injection e with e; have := EQ.out.2; have := HD.out.hgr; omega))) EQ.out.2)
          have HD := Lib.hid hd
          clear hd hr hg
          refine wpAnyH_ready (rs := [17]) (by kernel_rfl) (by simp) ?_
          refine AllReadyH.cons (o := { dst := Option.some 29, op := Op.call { callee := Callee.value (Operand.func 27), args := #[Operand.tmp 28], argTypes := #[49] }, type := 4, pos := "bytes.go:43", after := #[{ on := 16, ground := Ground.data }, { on := 15, ground := Ground.chain }], guard := Option.none }) rfl (fun K hK => ?_) AllReadyH.nil
          refine step_fun rfl _ _ _ rfl 27 _ rfl #[.pointer (some ⟨p, 0, none⟩)] rfl e27 (C9.out p _ _ HD.out.rd) ?_
          rintro y u64 ⟨v', rfl, hr, hg⟩
          refine ⟨_, rfl, ?_⟩
          have hd := DK.read HD.out hr hg
          refine hK.out _ _ hd.cel (fun hHeld2 => ?_)
          clear hK K hHeld
          have hHeld := hHeld2
          clear hHeld2
          try simp only [Act.put, List.setIfInBounds_toArray, List.set_cons_zero, List.set_cons_succ]
          have EQ := Lib.hid (And.intro (EQ.out.1.to (hg.block gm EQ.out.1.lt (by intro e; injection e with e; have := EQ.out.2; have := HD.out.hgr; omega))) EQ.out.2)
          have HD := Lib.hid hd
          clear hd hr hg
          refine wpAnyH_ready (rs := [19]) (by kernel_rfl) (by simp) ?_
          refine AllReadyH.cons (o := { dst := Option.some 31, op := Op.call { callee := Callee.value (Operand.tmp 30), args := #[], argTypes := #[] }, type := 3, pos := "bytes.go:44", after := #[{ on := 18, ground := Ground.data }, { on := 17, ground := Ground.chain }], guard := Option.none }) rfl (fun K hK => ?_) AllReadyH.nil
          refine step_fun rfl _ _ _ rfl 25 _ rfl #[.pointer (some ⟨gr, 0, none⟩)] rfl e25 (C10.out p gr _ _ (HS.out _ HD.out.bel) HD.out.cell HD.out.rd) ?_
          rintro y u65 ⟨v', rfl, hr, hg⟩
          refine ⟨_, rfl, ?_⟩
          have hd := DK.read HD.out hr hg
          refine hK.out _ _ hd.cel (fun hHeld2 => ?_)
          clear hK K hHeld
          have hHeld := hHeld2
          clear hHeld2
          try simp only [Act.put, List.setIfInBounds_toArray, List.set_cons_zero, List.set_cons_succ]
          have EQ := Lib.hid (And.intro (EQ.out.1.to (hg.block gm EQ.out.1.lt (by intro e; injection e with e; have := EQ.out.2; have := HD.out.hgr; omega))) EQ.out.2)
          have HD := Lib.hid hd
          clear hd hr hg
          have EQ0 := Lib.hid EQ.out.1.lt
          refine wpAnyH_ready (rs := [21]) (by kernel_rfl) (by simp) ?_
          refine AllReadyH.cons (o := { dst := Option.some 33, op := Op.call { callee := Callee.value (Operand.func 28), args := #[Operand.tmp 32, Operand.const (Value.int IntKind.i64 4096)], argTypes := #[49, 3] }, type := 22, pos := "bytes.go:45", after := #[{ on := 20, ground := Ground.data }, { on := 19, ground := Ground.chain }], guard := Option.none }) rfl (fun K hK => ?_) AllReadyH.nil
          refine step_fun rfl _ _ _ rfl 28 _ rfl #[.pointer (some ⟨p, 0, none⟩), .int .i64 4096] rfl e28 (C11.out p _ _ (HS.out _ HD.out.bel) HD.out.rd) ?_
          rintro y WF ⟨v', Ad, cd, rfl, hx, hr, hg⟩
          refine ⟨_, rfl, ?_⟩
          have hd := DK.read HD.out hr hg
          refine hK.out _ _ hd.cel (fun hHeld2 => ?_)
          clear hK K hHeld
          have hHeld := hHeld2
          clear hHeld2
          try simp only [Act.put, List.setIfInBounds_toArray, List.set_cons_zero, List.set_cons_succ]
          have EQ := Lib.hid (And.intro (EQ.out.1.to (hg.block gm EQ.out.1.lt (by intro e; injection e with e; have := EQ.out.2; have := HD.out.hgr; omega))) EQ.out.2)
          have XD := Lib.hid (hx.mono (T' := Tq W0 p gm WF) fun q hq => ⟨Nat.le_trans HD.out.bel.size hq.1, hq.2, by have := hq.1; have := HD.out.rd.lt; omega, by have := hq.1; have := EQ0.out; omega⟩)
          clear hx
          have HD := Lib.hid hd
          clear hd hr hg
          refine wpAnyH_take (i := 22) (oi := { dst := Option.some 34, op := Op.build 30 #[(0, Operand.tmp 13), (1, Operand.tmp 15), (2, Operand.tmp 17), (3, Operand.tmp 19), (4, Operand.tmp 21), (5, Operand.tmp 23), (6, Operand.tmp 25), (7, Operand.tmp 27), (8, Operand.tmp 29), (9, Operand.tmp 31), (10, Operand.tmp 33)], type := 30, pos := "bytes.go:34", after := #[{ on := 1, ground := Ground.data }, { on := 3, ground := Ground.data }, { on := 5, ground := Ground.data }, { on := 7, ground := Ground.data }, { on := 9, ground := Ground.data }, { on := 11, ground := Ground.data }, { on := 13, ground := Ground.data }, { on := 15, ground := Ground.data }, { on := 17, ground := Ground.data }, { on := 19, ground := Ground.data }, { on := 21, ground := Ground.data }], guard := Option.none }) (v := .agg #[.int .i64 (v1 : Int), .int .i64 (v2 : Int), .int .i64 (v3 : Int), .int .i64 (v4 : Int), .int .i64 (v5 : Int), .int .i64 (v6 : Int), .int .i64 (v7 : Int), .int .i64 (v8 : Int), .bool v9, .int .i64 (v10 : Int), .slice Ad n11 cd, .slice none 0 0]) rfl (by kernel_rfl) (by kernel_rfl) (by kernel_rfl) (fun _ _ _ h => h) (Or.inl ⟨by rfl, ?_⟩) hHeld ?_
          · intro W hSw
            go_simp
          simp only [Act.put, List.setIfInBounds_toArray, List.set_cons_zero, List.set_cons_succ]
        rotate_left
        focus
          refine step_fun rfl _ _ _ rfl 25 _ rfl #[.pointer (some ⟨gr, 0, none⟩)] rfl e25 (C3.out p gr _ _ (HS.out _ HD.out.bel) HD.out.cell HD.out.rd) ?_
          rintro y u3 ⟨v', rfl, hr, hg⟩
          refine ⟨_, rfl, ?_⟩
          have hd := DK.read HD.out hr hg
          refine hK.out _ _ hd.cel (fun hHeld2 => ?_)
          clear hK K hHeld
          have hHeld := hHeld2
          clear hHeld2
          try simp only [Act.put, List.setIfInBounds_toArray, List.set_cons_zero, List.set_cons_succ]
          have HD := Lib.hid hd
          clear hd hr hg
          refine wpAnyH_ready (rs := [7, 23]) (by kernel_rfl) (by simp) ?_
          refine AllReadyH.cons (o := { dst := Option.some 19, op := Op.call { callee := Callee.value (Operand.tmp 18), args := #[], argTypes := #[] }, type := 3, pos := "bytes.go:38", after := #[{ on := 6, ground := Ground.data }, { on := 5, ground := Ground.chain }], guard := Option.none }) rfl (fun K hK => ?_) (AllReadyH.cons (o := { dst := Option.some 6, op := Op.alloc 30, type := 0, pos := "bytes.go:34", after := #[], guard := Option.none }) rfl (fun K hK => ?_) AllReadyH.nil)
          rotate_left
          focus
            refine step_op' rfl ?_
            go_simp
            have hq := heap_alloc_new u3 (.cells #[.int .i64 0, .int .i64 0, .int .i64 0, .int .i64 0, .int .i64 0, .int .i64 0, .int .i64 0, .int .i64 0, .bool false, .int .i64 0, .slice none 0 0, .slice none 0 0] 30)
            have hsb := below_alloc u3 (.cells #[.int .i64 0, .int .i64 0, .int .i64 0, .int .i64 0, .int .i64 0, .int .i64 0, .int .i64 0, .int .i64 0, .bool false, .int .i64 0, .slice none 0 0, .slice none 0 0] 30)
            have hd := HD.out.more hsb
            have hgl := HD.out.lt
            refine hK.out _ _ hd.cel (fun hHeld2 => ?_)
            clear hK K hHeld
            have hHeld := hHeld2
            clear hHeld2
            try simp only [Act.put, List.setIfInBounds_toArray, List.set_cons_zero, List.set_cons_succ]
            obtain ⟨u48, hVN⟩ : ∃ W, W = u3.alloc (.cells #[.int .i64 0, .int .i64 0, .int .i64 0, .int .i64 0, .int .i64 0, .int .i64 0, .int .i64 0, .int .i64 0, .bool false, .int .i64 0, .slice none 0 0, .slice none 0 0] 30) := ⟨_, rfl⟩
            obtain ⟨gm, hgm⟩ : ∃ g, g = u3.heap.size := ⟨_, rfl⟩
            rw [← hVN] at hq hsb hd hHeld ⊢
            rw [← hgm] at hq hgl ⊢
            have EQ := Lib.hid (And.intro (show N12 u48 gm (.int .i64 0) (.int .i64 0) (.int .i64 0) (.int .i64 0) (.int .i64 0) (.int .i64 0) (.int .i64 0) (.int .i64 0) (.bool false) (.int .i64 0) (.slice none 0 0) (.slice none 0 0) from hq) hgl)
            have EQ0 := Lib.hid (obj_lt hq)
            have HD := Lib.hid hd
            clear hq hsb hd hgl hVN hgm
            refine wpAnyH_ready (rs := [7]) (by kernel_rfl) (by simp) ?_
            refine AllReadyH.cons (o := { dst := Option.some 19, op := Op.call { callee := Callee.value (Operand.tmp 18), args := #[], argTypes := #[] }, type := 3, pos := "bytes.go:38", after := #[{ on := 6, ground := Ground.data }, { on := 5, ground := Ground.chain }], guard := Option.none }) rfl (fun K hK => ?_) AllReadyH.nil
            refine step_fun rfl _ _ _ rfl 25 _ rfl #[.pointer (some ⟨gr, 0, none⟩)] rfl e25 (C4.out p gr _ _ (HS.out _ HD.out.bel) HD.out.cell HD.out.rd) ?_
            rintro y u49 ⟨v', rfl, hr, hg⟩
            refine ⟨_, rfl, ?_⟩
            have hd := DK.read HD.out hr hg
            refine hK.out _ _ hd.cel (fun hHeld2 => ?_)
            clear hK K hHeld
            have hHeld := hHeld2
            clear hHeld2
            try simp only [Act.put, List.setIfInBounds_toArray, List.set_cons_zero, List.set_cons_succ]
            have EQ := Lib.hid (And.intro (EQ.out.1.to (hg.block gm EQ.out.1.lt (by intro e; injection e with e; have := EQ.out.2; have := HD.out.hgr; omega))) EQ.out.2)
            have HD := Lib.hid hd
            clear hd hr hg
            refine wpAnyH_ready (rs := [9]) (by kernel_rfl) (by simp) ?_
            refine AllReadyH.cons (o := { dst := Option.some 21, op := Op.call { callee := Callee.value (Operand.tmp 20), args := #[], argTypes := #[] }, type := 3, pos := "bytes.go:39", after := #[{ on := 8, ground := Ground.data }, { on := 7, ground := Ground.chain }], guard := Option.none }) rfl (fun K hK => ?_) AllReadyH.nil
            refine step_fun rfl _ _ _ rfl 25 _ rfl #[.pointer (some ⟨gr, 0, none⟩)] rfl e25 (C5.out p gr _ _ (HS.out _ HD.out.bel) HD.out.cell HD.out.rd) ?_
            rintro y u50 ⟨v', rfl, hr, hg⟩
            refine ⟨_, rfl, ?_⟩
            have hd := DK.read HD.out hr hg
            refine hK.out _ _ hd.cel (fun hHeld2 => ?_)
            clear hK K hHeld
            have hHeld := hHeld2
            clear hHeld2
            try simp only [Act.put, List.setIfInBounds_toArray, List.set_cons_zero, List.set_cons_succ]
            have EQ := Lib.hid (And.intro (EQ.out.1.to (hg.block gm EQ.out.1.lt (by intro e; injection e with e; have := EQ.out.2; have := HD.out.hgr; omega))) EQ.out.2)
            have HD := Lib.hid hd
            clear hd hr hg
            refine wpAnyH_ready (rs := [11]) (by kernel_rfl) (by simp) ?_
            refine AllReadyH.cons (o := { dst := Option.some 23, op := Op.call { callee := Callee.value (Operand.tmp 22), args := #[], argTypes := #[] }, type := 3, pos := "bytes.go:40", after := #[{ on := 10, ground := Ground.data }, { on := 9, ground := Ground.chain }], guard := Option.none }) rfl (fun K hK => ?_) AllReadyH.nil
            refine step_fun rfl _ _ _ rfl 25 _ rfl #[.pointer (some ⟨gr, 0, none⟩)] rfl e25 (C6.out p gr _ _ (HS.out _ HD.out.bel) HD.out.cell HD.out.rd) ?_
            rintro y u51 ⟨v', rfl, hr, hg⟩
            refine ⟨_, rfl, ?_⟩
            have hd := DK.read HD.out hr hg
            refine hK.out _ _ hd.cel (fun hHeld2 => ?_)
            clear hK K hHeld
            have hHeld := hHeld2
            clear hHeld2
            try simp only [Act.put, List.setIfInBounds_toArray, List.set_cons_zero, List.set_cons_succ]
            have EQ := Lib.hid (And.intro (EQ.out.1.to (hg.block gm EQ.out.1.lt (by intro e; injection e with e; have := EQ.out.2; have := HD.out.hgr; omega))) EQ.out.2)
            have HD := Lib.hid hd
            clear hd hr hg
            refine wpAnyH_ready (rs := [13]) (by kernel_rfl) (by simp) ?_
            refine AllReadyH.cons (o := { dst := Option.some 25, op := Op.call { callee := Callee.value (Operand.tmp 24), args := #[], argTypes := #[] }, type := 3, pos := "bytes.go:41", after := #[{ on := 12, ground := Ground.data }, { on := 11, ground := Ground.chain }], guard := Option.none }) rfl (fun K hK => ?_) AllReadyH.nil
            refine step_fun rfl _ _ _ rfl 25 _ rfl #[.pointer (some ⟨gr, 0, none⟩)] rfl e25 (C7.out p gr _ _ (HS.out _ HD.out.bel) HD.out.cell HD.out.rd) ?_
            rintro y u52 ⟨v', rfl, hr, hg⟩
            refine ⟨_, rfl, ?_⟩
            have hd := DK.read HD.out hr hg
            refine hK.out _ _ hd.cel (fun hHeld2 => ?_)
            clear hK K hHeld
            have hHeld := hHeld2
            clear hHeld2
            try simp only [Act.put, List.setIfInBounds_toArray, List.set_cons_zero, List.set_cons_succ]
            have EQ := Lib.hid (And.intro (EQ.out.1.to (hg.block gm EQ.out.1.lt (by intro e; injection e with e; have := EQ.out.2; have := HD.out.hgr; omega))) EQ.out.2)
            have HD := Lib.hid hd
            clear hd hr hg
            refine wpAnyH_ready (rs := [15]) (by kernel_rfl) (by simp) ?_
            refine AllReadyH.cons (o := { dst := Option.some 27, op := Op.call { callee := Callee.value (Operand.tmp 26), args := #[], argTypes := #[] }, type := 3, pos := "bytes.go:42", after := #[{ on := 14, ground := Ground.data }, { on := 13, ground := Ground.chain }], guard := Option.none }) rfl (fun K hK => ?_) AllReadyH.nil
            refine step_fun rfl _ _ _ rfl 25 _ rfl #[.pointer (some ⟨gr, 0, none⟩)] rfl e25 (C8.out p gr _ _ (HS.out _ HD.out.bel) HD.out.cell HD.out.rd) ?_
            rintro y u53 ⟨v', rfl, hr, hg⟩
            refine ⟨_, rfl, ?_⟩
            have hd := DK.read HD.out hr hg
            refine hK.out _ _ hd.cel (fun hHeld2 => ?_)
            clear hK K hHeld
            have hHeld := hHeld2
            clear hHeld2
            try simp only [Act.put, List.setIfInBounds_toArray, List.set_cons_zero, List.set_cons_succ]
            have EQ := Lib.hid (And.intro (EQ.out.1.to (hg.block gm EQ.out.1.lt (by intro e; injection e with e; have := EQ.out.2; have := HD.out.hgr; omega))) EQ.out.2)
            have HD := Lib.hid hd
            clear hd hr hg
            refine wpAnyH_ready (rs := [17]) (by kernel_rfl) (by simp) ?_
            refine AllReadyH.cons (o := { dst := Option.some 29, op := Op.call { callee := Callee.value (Operand.func 27), args := #[Operand.tmp 28], argTypes := #[49] }, type := 4, pos := "bytes.go:43", after := #[{ on := 16, ground := Ground.data }, { on := 15, ground := Ground.chain }], guard := Option.none }) rfl (fun K hK => ?_) AllReadyH.nil
            refine step_fun rfl _ _ _ rfl 27 _ rfl #[.pointer (some ⟨p, 0, none⟩)] rfl e27 (C9.out p _ _ HD.out.rd) ?_
            rintro y u54 ⟨v', rfl, hr, hg⟩
            refine ⟨_, rfl, ?_⟩
            have hd := DK.read HD.out hr hg
            refine hK.out _ _ hd.cel (fun hHeld2 => ?_)
            clear hK K hHeld
            have hHeld := hHeld2
            clear hHeld2
            try simp only [Act.put, List.setIfInBounds_toArray, List.set_cons_zero, List.set_cons_succ]
            have EQ := Lib.hid (And.intro (EQ.out.1.to (hg.block gm EQ.out.1.lt (by intro e; injection e with e; have := EQ.out.2; have := HD.out.hgr; omega))) EQ.out.2)
            have HD := Lib.hid hd
            clear hd hr hg
            refine wpAnyH_ready (rs := [19]) (by kernel_rfl) (by simp) ?_
            refine AllReadyH.cons (o := { dst := Option.some 31, op := Op.call { callee := Callee.value (Operand.tmp 30), args := #[], argTypes := #[] }, type := 3, pos := "bytes.go:44", after := #[{ on := 18, ground := Ground.data }, { on := 17, ground := Ground.chain }], guard := Option.none }) rfl (fun K hK => ?_) AllReadyH.nil
            refine step_fun rfl _ _ _ rfl 25 _ rfl #[.pointer (some ⟨gr, 0, none⟩)] rfl e25 (C10.out p gr _ _ (HS.out _ HD.out.bel) HD.out.cell HD.out.rd) ?_
            rintro y u55 ⟨v', rfl, hr, hg⟩
            refine ⟨_, rfl, ?_⟩
            have hd := DK.read HD.out hr hg
            refine hK.out _ _ hd.cel (fun hHeld2 => ?_)
            clear hK K hHeld
            have hHeld := hHeld2
            clear hHeld2
            try simp only [Act.put, List.setIfInBounds_toArray, List.set_cons_zero, List.set_cons_succ]
            have EQ := Lib.hid (And.intro (EQ.out.1.to (hg.block gm EQ.out.1.lt (by intro e; injection e with e; have := EQ.out.2; have := HD.out.hgr; omega))) EQ.out.2)
            have HD := Lib.hid hd
            clear hd hr hg
            have EQ0 := Lib.hid EQ.out.1.lt
            refine wpAnyH_ready (rs := [21]) (by kernel_rfl) (by simp) ?_
            refine AllReadyH.cons (o := { dst := Option.some 33, op := Op.call { callee := Callee.value (Operand.func 28), args := #[Operand.tmp 32, Operand.const (Value.int IntKind.i64 4096)], argTypes := #[49, 3] }, type := 22, pos := "bytes.go:45", after := #[{ on := 20, ground := Ground.data }, { on := 19, ground := Ground.chain }], guard := Option.none }) rfl (fun K hK => ?_) AllReadyH.nil
            refine step_fun rfl _ _ _ rfl 28 _ rfl #[.pointer (some ⟨p, 0, none⟩), .int .i64 4096] rfl e28 (C11.out p _ _ (HS.out _ HD.out.bel) HD.out.rd) ?_
            rintro y WF ⟨v', Ad, cd, rfl, hx, hr, hg⟩
            refine ⟨_, rfl, ?_⟩
            have hd := DK.read HD.out hr hg
            refine hK.out _ _ hd.cel (fun hHeld2 => ?_)
            clear hK K hHeld
            have hHeld := hHeld2
            clear hHeld2
            try simp only [Act.put, List.setIfInBounds_toArray, List.set_cons_zero, List.set_cons_succ]
            have EQ := Lib.hid (And.intro (EQ.out.1.to (hg.block gm EQ.out.1.lt (by intro e; injection e with e; have := EQ.out.2; have := HD.out.hgr; omega))) EQ.out.2)
            have XD := Lib.hid (hx.mono (T' := Tq W0 p gm WF) fun q hq => ⟨Nat.le_trans HD.out.bel.size hq.1, hq.2, by have := hq.1; have := HD.out.rd.lt; omega, by have := hq.1; have := EQ0.out; omega⟩)
            clear hx
            have HD := Lib.hid hd
            clear hd hr hg
            refine wpAnyH_take (i := 22) (oi := { dst := Option.some 34, op := Op.build 30 #[(0, Operand.tmp 13), (1, Operand.tmp 15), (2, Operand.tmp 17), (3, Operand.tmp 19), (4, Operand.tmp 21), (5, Operand.tmp 23), (6, Operand.tmp 25), (7, Operand.tmp 27), (8, Operand.tmp 29), (9, Operand.tmp 31), (10, Operand.tmp 33)], type := 30, pos := "bytes.go:34", after := #[{ on := 1, ground := Ground.data }, { on := 3, ground := Ground.data }, { on := 5, ground := Ground.data }, { on := 7, ground := Ground.data }, { on := 9, ground := Ground.data }, { on := 11, ground := Ground.data }, { on := 13, ground := Ground.data }, { on := 15, ground := Ground.data }, { on := 17, ground := Ground.data }, { on := 19, ground := Ground.data }, { on := 21, ground := Ground.data }], guard := Option.none }) (v := .agg #[.int .i64 (v1 : Int), .int .i64 (v2 : Int), .int .i64 (v3 : Int), .int .i64 (v4 : Int), .int .i64 (v5 : Int), .int .i64 (v6 : Int), .int .i64 (v7 : Int), .int .i64 (v8 : Int), .bool v9, .int .i64 (v10 : Int), .slice Ad n11 cd, .slice none 0 0]) rfl (by kernel_rfl) (by kernel_rfl) (by kernel_rfl) (fun _ _ _ h => h) (Or.inl ⟨by rfl, ?_⟩) hHeld ?_
            · intro W hSw
              go_simp
            simp only [Act.put, List.setIfInBounds_toArray, List.set_cons_zero, List.set_cons_succ]
          rotate_left
          focus
            refine step_fun rfl _ _ _ rfl 25 _ rfl #[.pointer (some ⟨gr, 0, none⟩)] rfl e25 (C4.out p gr _ _ (HS.out _ HD.out.bel) HD.out.cell HD.out.rd) ?_
            rintro y u4 ⟨v', rfl, hr, hg⟩
            refine ⟨_, rfl, ?_⟩
            have hd := DK.read HD.out hr hg
            refine hK.out _ _ hd.cel (fun hHeld2 => ?_)
            clear hK K hHeld
            have hHeld := hHeld2
            clear hHeld2
            try simp only [Act.put, List.setIfInBounds_toArray, List.set_cons_zero, List.set_cons_succ]
            have HD := Lib.hid hd
            clear hd hr hg
            refine wpAnyH_ready (rs := [9, 23]) (by kernel_rfl) (by simp) ?_
            refine AllReadyH.cons (o := { dst := Option.some 21, op := Op.call { callee := Callee.value (Operand.tmp 20), args := #[], argTypes := #[] }, type := 3, pos := "bytes.go:39", after := #[{ on := 8, ground := Ground.data }, { on := 7, ground := Ground.chain }], guard := Option.none }) rfl (fun K hK => ?_) (AllReadyH.cons (o := { dst := Option.some 6, op := Op.alloc 30, type := 0, pos := "bytes.go:34", after := #[], guard := Option.none }) rfl (fun K hK => ?_) AllReadyH.nil)
            rotate_left
            focus
              refine step_op' rfl ?_
              go_simp
              have hq := heap_alloc_new u4 (.cells #[.int .i64 0, .int .i64 0, .int .i64 0, .int .i64 0, .int .i64 0, .int .i64 0, .int .i64 0, .int .i64 0, .bool false, .int .i64 0, .slice none 0 0, .slice none 0 0] 30)
              have hsb := below_alloc u4 (.cells #[.int .i64 0, .int .i64 0, .int .i64 0, .int .i64 0, .int .i64 0, .int .i64 0, .int .i64 0, .int .i64 0, .bool false, .int .i64 0, .slice none 0 0, .slice none 0 0] 30)
              have hd := HD.out.more hsb
              have hgl := HD.out.lt
              refine hK.out _ _ hd.cel (fun hHeld2 => ?_)
              clear hK K hHeld
              have hHeld := hHeld2
              clear hHeld2
              try simp only [Act.put, List.setIfInBounds_toArray, List.set_cons_zero, List.set_cons_succ]
              obtain ⟨u40, hVN⟩ : ∃ W, W = u4.alloc (.cells #[.int .i64 0, .int .i64 0, .int .i64 0, .int .i64 0, .int .i64 0, .int .i64 0, .int .i64 0, .int .i64 0, .bool false, .int .i64 0, .slice none 0 0, .slice none 0 0] 30) := ⟨_, rfl⟩
              obtain ⟨gm, hgm⟩ : ∃ g, g = u4.heap.size := ⟨_, rfl⟩
              rw [← hVN] at hq hsb hd hHeld ⊢
              rw [← hgm] at hq hgl ⊢
              have EQ := Lib.hid (And.intro (show N12 u40 gm (.int .i64 0) (.int .i64 0) (.int .i64 0) (.int .i64 0) (.int .i64 0) (.int .i64 0) (.int .i64 0) (.int .i64 0) (.bool false) (.int .i64 0) (.slice none 0 0) (.slice none 0 0) from hq) hgl)
              have EQ0 := Lib.hid (obj_lt hq)
              have HD := Lib.hid hd
              clear hq hsb hd hgl hVN hgm
              refine wpAnyH_ready (rs := [9]) (by kernel_rfl) (by simp) ?_
              refine AllReadyH.cons (o := { dst := Option.some 21, op := Op.call { callee := Callee.value (Operand.tmp 20), args := #[], argTypes := #[] }, type := 3, pos := "bytes.go:39", after := #[{ on := 8, ground := Ground.data }, { on := 7, ground := Ground.chain }], guard := Option.none }) rfl (fun K hK => ?_) AllReadyH.nil
              refine step_fun rfl _ _ _ rfl 25 _ rfl #[.pointer (some ⟨gr, 0, none⟩)] rfl e25 (C5.out p gr _ _ (HS.out _ HD.out.bel) HD.out.cell HD.out.rd) ?_
              rintro y u41 ⟨v', rfl, hr, hg⟩
              refine ⟨_, rfl, ?_⟩
              have hd := DK.read HD.out hr hg
              refine hK.out _ _ hd.cel (fun hHeld2 => ?_)
              clear hK K hHeld
              have hHeld := hHeld2
              clear hHeld2
              try simp only [Act.put, List.setIfInBounds_toArray, List.set_cons_zero, List.set_cons_succ]
              have EQ := Lib.hid (And.intro (EQ.out.1.to (hg.block gm EQ.out.1.lt (by intro e; injection e with e; have := EQ.out.2; have := HD.out.hgr; omega))) EQ.out.2)
              have HD := Lib.hid hd
              clear hd hr hg
              refine wpAnyH_ready (rs := [11]) (by kernel_rfl) (by simp) ?_
              refine AllReadyH.cons (o := { dst := Option.some 23, op := Op.call { callee := Callee.value (Operand.tmp 22), args := #[], argTypes := #[] }, type := 3, pos := "bytes.go:40", after := #[{ on := 10, ground := Ground.data }, { on := 9, ground := Ground.chain }], guard := Option.none }) rfl (fun K hK => ?_) AllReadyH.nil
              refine step_fun rfl _ _ _ rfl 25 _ rfl #[.pointer (some ⟨gr, 0, none⟩)] rfl e25 (C6.out p gr _ _ (HS.out _ HD.out.bel) HD.out.cell HD.out.rd) ?_
              rintro y u42 ⟨v', rfl, hr, hg⟩
              refine ⟨_, rfl, ?_⟩
              have hd := DK.read HD.out hr hg
              refine hK.out _ _ hd.cel (fun hHeld2 => ?_)
              clear hK K hHeld
              have hHeld := hHeld2
              clear hHeld2
              try simp only [Act.put, List.setIfInBounds_toArray, List.set_cons_zero, List.set_cons_succ]
              have EQ := Lib.hid (And.intro (EQ.out.1.to (hg.block gm EQ.out.1.lt (by intro e; injection e with e; have := EQ.out.2; have := HD.out.hgr; omega))) EQ.out.2)
              have HD := Lib.hid hd
              clear hd hr hg
              refine wpAnyH_ready (rs := [13]) (by kernel_rfl) (by simp) ?_
              refine AllReadyH.cons (o := { dst := Option.some 25, op := Op.call { callee := Callee.value (Operand.tmp 24), args := #[], argTypes := #[] }, type := 3, pos := "bytes.go:41", after := #[{ on := 12, ground := Ground.data }, { on := 11, ground := Ground.chain }], guard := Option.none }) rfl (fun K hK => ?_) AllReadyH.nil
              refine step_fun rfl _ _ _ rfl 25 _ rfl #[.pointer (some ⟨gr, 0, none⟩)] rfl e25 (C7.out p gr _ _ (HS.out _ HD.out.bel) HD.out.cell HD.out.rd) ?_
              rintro y u43 ⟨v', rfl, hr, hg⟩
              refine ⟨_, rfl, ?_⟩
              have hd := DK.read HD.out hr hg
              refine hK.out _ _ hd.cel (fun hHeld2 => ?_)
              clear hK K hHeld
              have hHeld := hHeld2
              clear hHeld2
              try simp only [Act.put, List.setIfInBounds_toArray, List.set_cons_zero, List.set_cons_succ]
              have EQ := Lib.hid (And.intro (EQ.out.1.to (hg.block gm EQ.out.1.lt (by intro e; injection e with e; have := EQ.out.2; have := HD.out.hgr; omega))) EQ.out.2)
              have HD := Lib.hid hd
              clear hd hr hg
              refine wpAnyH_ready (rs := [15]) (by kernel_rfl) (by simp) ?_
              refine AllReadyH.cons (o := { dst := Option.some 27, op := Op.call { callee := Callee.value (Operand.tmp 26), args := #[], argTypes := #[] }, type := 3, pos := "bytes.go:42", after := #[{ on := 14, ground := Ground.data }, { on := 13, ground := Ground.chain }], guard := Option.none }) rfl (fun K hK => ?_) AllReadyH.nil
              refine step_fun rfl _ _ _ rfl 25 _ rfl #[.pointer (some ⟨gr, 0, none⟩)] rfl e25 (C8.out p gr _ _ (HS.out _ HD.out.bel) HD.out.cell HD.out.rd) ?_
              rintro y u44 ⟨v', rfl, hr, hg⟩
              refine ⟨_, rfl, ?_⟩
              have hd := DK.read HD.out hr hg
              refine hK.out _ _ hd.cel (fun hHeld2 => ?_)
              clear hK K hHeld
              have hHeld := hHeld2
              clear hHeld2
              try simp only [Act.put, List.setIfInBounds_toArray, List.set_cons_zero, List.set_cons_succ]
              have EQ := Lib.hid (And.intro (EQ.out.1.to (hg.block gm EQ.out.1.lt (by intro e; injection e with e; have := EQ.out.2; have := HD.out.hgr; omega))) EQ.out.2)
              have HD := Lib.hid hd
              clear hd hr hg
              refine wpAnyH_ready (rs := [17]) (by kernel_rfl) (by simp) ?_
              refine AllReadyH.cons (o := { dst := Option.some 29, op := Op.call { callee := Callee.value (Operand.func 27), args := #[Operand.tmp 28], argTypes := #[49] }, type := 4, pos := "bytes.go:43", after := #[{ on := 16, ground := Ground.data }, { on := 15, ground := Ground.chain }], guard := Option.none }) rfl (fun K hK => ?_) AllReadyH.nil
              refine step_fun rfl _ _ _ rfl 27 _ rfl #[.pointer (some ⟨p, 0, none⟩)] rfl e27 (C9.out p _ _ HD.out.rd) ?_
              rintro y u45 ⟨v', rfl, hr, hg⟩
              refine ⟨_, rfl, ?_⟩
              have hd := DK.read HD.out hr hg
              refine hK.out _ _ hd.cel (fun hHeld2 => ?_)
              clear hK K hHeld
              have hHeld := hHeld2
              clear hHeld2
              try simp only [Act.put, List.setIfInBounds_toArray, List.set_cons_zero, List.set_cons_succ]
              have EQ := Lib.hid (And.intro (EQ.out.1.to (hg.block gm EQ.out.1.lt (by intro e; injection e with e; have := EQ.out.2; have := HD.out.hgr; omega))) EQ.out.2)
              have HD := Lib.hid hd
              clear hd hr hg
              refine wpAnyH_ready (rs := [19]) (by kernel_rfl) (by simp) ?_
              refine AllReadyH.cons (o := { dst := Option.some 31, op := Op.call { callee := Callee.value (Operand.tmp 30), args := #[], argTypes := #[] }, type := 3, pos := "bytes.go:44", after := #[{ on := 18, ground := Ground.data }, { on := 17, ground := Ground.chain }], guard := Option.none }) rfl (fun K hK => ?_) AllReadyH.nil
              refine step_fun rfl _ _ _ rfl 25 _ rfl #[.pointer (some ⟨gr, 0, none⟩)] rfl e25 (C10.out p gr _ _ (HS.out _ HD.out.bel) HD.out.cell HD.out.rd) ?_
              rintro y u46 ⟨v', rfl, hr, hg⟩
              refine ⟨_, rfl, ?_⟩
              have hd := DK.read HD.out hr hg
              refine hK.out _ _ hd.cel (fun hHeld2 => ?_)
              clear hK K hHeld
              have hHeld := hHeld2
              clear hHeld2
              try simp only [Act.put, List.setIfInBounds_toArray, List.set_cons_zero, List.set_cons_succ]
              have EQ := Lib.hid (And.intro (EQ.out.1.to (hg.block gm EQ.out.1.lt (by intro e; injection e with e; have := EQ.out.2; have := HD.out.hgr; omega))) EQ.out.2)
              have HD := Lib.hid hd
              clear hd hr hg
              have EQ0 := Lib.hid EQ.out.1.lt
              refine wpAnyH_ready (rs := [21]) (by kernel_rfl) (by simp) ?_
              refine AllReadyH.cons (o := { dst := Option.some 33, op := Op.call { callee := Callee.value (Operand.func 28), args := #[Operand.tmp 32, Operand.const (Value.int IntKind.i64 4096)], argTypes := #[49, 3] }, type := 22, pos := "bytes.go:45", after := #[{ on := 20, ground := Ground.data }, { on := 19, ground := Ground.chain }], guard := Option.none }) rfl (fun K hK => ?_) AllReadyH.nil
              refine step_fun rfl _ _ _ rfl 28 _ rfl #[.pointer (some ⟨p, 0, none⟩), .int .i64 4096] rfl e28 (C11.out p _ _ (HS.out _ HD.out.bel) HD.out.rd) ?_
              rintro y WF ⟨v', Ad, cd, rfl, hx, hr, hg⟩
              refine ⟨_, rfl, ?_⟩
              have hd := DK.read HD.out hr hg
              refine hK.out _ _ hd.cel (fun hHeld2 => ?_)
              clear hK K hHeld
              have hHeld := hHeld2
              clear hHeld2
              try simp only [Act.put, List.setIfInBounds_toArray, List.set_cons_zero, List.set_cons_succ]
              have EQ := Lib.hid (And.intro (EQ.out.1.to (hg.block gm EQ.out.1.lt (by intro e; injection e with e; have := EQ.out.2; have := HD.out.hgr; omega))) EQ.out.2)
              have XD := Lib.hid (hx.mono (T' := Tq W0 p gm WF) fun q hq => ⟨Nat.le_trans HD.out.bel.size hq.1, hq.2, by have := hq.1; have := HD.out.rd.lt; omega, by have := hq.1; have := EQ0.out; omega⟩)
              clear hx
              have HD := Lib.hid hd
              clear hd hr hg
              refine wpAnyH_take (i := 22) (oi := { dst := Option.some 34, op := Op.build 30 #[(0, Operand.tmp 13), (1, Operand.tmp 15), (2, Operand.tmp 17), (3, Operand.tmp 19), (4, Operand.tmp 21), (5, Operand.tmp 23), (6, Operand.tmp 25), (7, Operand.tmp 27), (8, Operand.tmp 29), (9, Operand.tmp 31), (10, Operand.tmp 33)], type := 30, pos := "bytes.go:34", after := #[{ on := 1, ground := Ground.data }, { on := 3, ground := Ground.data }, { on := 5, ground := Ground.data }, { on := 7, ground := Ground.data }, { on := 9, ground := Ground.data }, { on := 11, ground := Ground.data }, { on := 13, ground := Ground.data }, { on := 15, ground := Ground.data }, { on := 17, ground := Ground.data }, { on := 19, ground := Ground.data }, { on := 21, ground := Ground.data }], guard := Option.none }) (v := .agg #[.int .i64 (v1 : Int), .int .i64 (v2 : Int), .int .i64 (v3 : Int), .int .i64 (v4 : Int), .int .i64 (v5 : Int), .int .i64 (v6 : Int), .int .i64 (v7 : Int), .int .i64 (v8 : Int), .bool v9, .int .i64 (v10 : Int), .slice Ad n11 cd, .slice none 0 0]) rfl (by kernel_rfl) (by kernel_rfl) (by kernel_rfl) (fun _ _ _ h => h) (Or.inl ⟨by rfl, ?_⟩) hHeld ?_
              · intro W hSw
                go_simp
              simp only [Act.put, List.setIfInBounds_toArray, List.set_cons_zero, List.set_cons_succ]
            rotate_left
            focus
              refine step_fun rfl _ _ _ rfl 25 _ rfl #[.pointer (some ⟨gr, 0, none⟩)] rfl e25 (C5.out p gr _ _ (HS.out _ HD.out.bel) HD.out.cell HD.out.rd) ?_
              rintro y u5 ⟨v', rfl, hr, hg⟩
              refine ⟨_, rfl, ?_⟩
              have hd := DK.read HD.out hr hg
              refine hK.out _ _ hd.cel (fun hHeld2 => ?_)
              clear hK K hHeld
              have hHeld := hHeld2
              clear hHeld2
              try simp only [Act.put, List.setIfInBounds_toArray, List.set_cons_zero, List.set_cons_succ]
              have HD := Lib.hid hd
              clear hd hr hg
              refine wpAnyH_ready (rs := [11, 23]) (by kernel_rfl) (by simp) ?_
              refine AllReadyH.cons (o := { dst := Option.some 23, op := Op.call { callee := Callee.value (Operand.tmp 22), args := #[], argTypes := #[] }, type := 3, pos := "bytes.go:40", after := #[{ on := 10, ground := Ground.data }, { on := 9, ground := Ground.chain }], guard := Option.none }) rfl (fun K hK => ?_) (AllReadyH.cons (o := { dst := Option.some 6, op := Op.alloc 30, type := 0, pos := "bytes.go:34", after := #[], guard := Option.none }) rfl (fun K hK => ?_) AllReadyH.nil)
              rotate_left
              focus
                refine step_op' rfl ?_
                go_simp
                have hq := heap_alloc_new u5 (.cells #[.int .i64 0, .int .i64 0, .int .i64 0, .int .i64 0, .int .i64 0, .int .i64 0, .int .i64 0, .int .i64 0, .bool false, .int .i64 0, .slice none 0 0, .slice none 0 0] 30)
                have hsb := below_alloc u5 (.cells #[.int .i64 0, .int .i64 0, .int .i64 0, .int .i64 0, .int .i64 0, .int .i64 0, .int .i64 0, .int .i64 0, .bool false, .int .i64 0, .slice none 0 0, .slice none 0 0] 30)
                have hd := HD.out.more hsb
                have hgl := HD.out.lt
                refine hK.out _ _ hd.cel (fun hHeld2 => ?_)
                clear hK K hHeld
                have hHeld := hHeld2
                clear hHeld2
                try simp only [Act.put, List.setIfInBounds_toArray, List.set_cons_zero, List.set_cons_succ]
                obtain ⟨u33, hVN⟩ : ∃ W, W = u5.alloc (.cells #[.int .i64 0, .int .i64 0, .int .i64 0, .int .i64 0, .int .i64 0, .int .i64 0, .int .i64 0, .int .i64 0, .bool false, .int .i64 0, .slice none 0 0, .slice none 0 0] 30) := ⟨_, rfl⟩
                obtain ⟨gm, hgm⟩ : ∃ g, g = u5.heap.size := ⟨_, rfl⟩
                rw [← hVN] at hq hsb hd hHeld ⊢
                rw [← hgm] at hq hgl ⊢
                have EQ := Lib.hid (And.intro (show N12 u33 gm (.int .i64 0) (.int .i64 0) (.int .i64 0) (.int .i64 0) (.int .i64 0) (.int .i64 0) (.int .i64 0) (.int .i64 0) (.bool false) (.int .i64 0) (.slice none 0 0) (.slice none 0 0) from hq) hgl)
                have EQ0 := Lib.hid (obj_lt hq)
                have HD := Lib.hid hd
                clear hq hsb hd hgl hVN hgm
                refine wpAnyH_ready (rs := [11]) (by kernel_rfl) (by simp) ?_
                refine AllReadyH.cons (o := { dst := Option.some 23, op := Op.call { callee := Callee.value (Operand.tmp 22), args := #[], argTypes := #[] }, type := 3, pos := "bytes.go:40", after := #[{ on := 10, ground := Ground.data }, { on := 9, ground := Ground.chain }], guard := Option.none }) rfl (fun K hK => ?_) AllReadyH.nil
                refine step_fun rfl _ _ _ rfl 25 _ rfl #[.pointer (some ⟨gr, 0, none⟩)] rfl e25 (C6.out p gr _ _ (HS.out _ HD.out.bel) HD.out.cell HD.out.rd) ?_
                rintro y u34 ⟨v', rfl, hr, hg⟩
                refine ⟨_, rfl, ?_⟩
                have hd := DK.read HD.out hr hg
                refine hK.out _ _ hd.cel (fun hHeld2 => ?_)
                clear hK K hHeld
                have hHeld := hHeld2
                clear hHeld2
                try simp only [Act.put, List.setIfInBounds_toArray, List.set_cons_zero, List.set_cons_succ]
                have EQ := Lib.hid (And.intro (EQ.out.1.to (hg.block gm EQ.out.1.lt (by intro e; injection e with e; have := EQ.out.2; have := HD.out.hgr; omega))) EQ.out.2)
                have HD := Lib.hid hd
                clear hd hr hg
                refine wpAnyH_ready (rs := [13]) (by kernel_rfl) (by simp) ?_
                refine AllReadyH.cons (o := { dst := Option.some 25, op := Op.call { callee := Callee.value (Operand.tmp 24), args := #[], argTypes := #[] }, type := 3, pos := "bytes.go:41", after := #[{ on := 12, ground := Ground.data }, { on := 11, ground := Ground.chain }], guard := Option.none }) rfl (fun K hK => ?_) AllReadyH.nil
                refine step_fun rfl _ _ _ rfl 25 _ rfl #[.pointer (some ⟨gr, 0, none⟩)] rfl e25 (C7.out p gr _ _ (HS.out _ HD.out.bel) HD.out.cell HD.out.rd) ?_
                rintro y u35 ⟨v', rfl, hr, hg⟩
                refine ⟨_, rfl, ?_⟩
                have hd := DK.read HD.out hr hg
                refine hK.out _ _ hd.cel (fun hHeld2 => ?_)
                clear hK K hHeld
                have hHeld := hHeld2
                clear hHeld2
                try simp only [Act.put, List.setIfInBounds_toArray, List.set_cons_zero, List.set_cons_succ]
                have EQ := Lib.hid (And.intro (EQ.out.1.to (hg.block gm EQ.out.1.lt (by intro e; injection e with e; have := EQ.out.2; have := HD.out.hgr; omega))) EQ.out.2)
                have HD := Lib.hid hd
                clear hd hr hg
                refine wpAnyH_ready (rs := [15]) (by kernel_rfl) (by simp) ?_
                refine AllReadyH.cons (o := { dst := Option.some 27, op := Op.call { callee := Callee.value (Operand.tmp 26), args := #[], argTypes := #[] }, type := 3, pos := "bytes.go:42", after := #[{ on := 14, ground := Ground.data }, { on := 13, ground := Ground.chain }], guard := Option.none }) rfl (fun K hK => ?_) AllReadyH.nil
                refine step_fun rfl _ _ _ rfl 25 _ rfl #[.pointer (some ⟨gr, 0, none⟩)] rfl e25 (C8.out p gr _ _ (HS.out _ HD.out.bel) HD.out.cell HD.out.rd) ?_
                rintro y u36 ⟨v', rfl, hr, hg⟩
                refine ⟨_, rfl, ?_⟩
                have hd := DK.read HD.out hr hg
                refine hK.out _ _ hd.cel (fun hHeld2 => ?_)
                clear hK K hHeld
                have hHeld := hHeld2
                clear hHeld2
                try simp only [Act.put, List.setIfInBounds_toArray, List.set_cons_zero, List.set_cons_succ]
                have EQ := Lib.hid (And.intro (EQ.out.1.to (hg.block gm EQ.out.1.lt (by intro e; injection e with e; have := EQ.out.2; have := HD.out.hgr; omega))) EQ.out.2)
                have HD := Lib.hid hd
                clear hd hr hg
                refine wpAnyH_ready (rs := [17]) (by kernel_rfl) (by simp) ?_
                refine AllReadyH.cons (o := { dst := Option.some 29, op := Op.call { callee := Callee.value (Operand.func 27), args := #[Operand.tmp 28], argTypes := #[49] }, type := 4, pos := "bytes.go:43", after := #[{ on := 16, ground := Ground.data }, { on := 15, ground := Ground.chain }], guard := Option.none }) rfl (fun K hK => ?_) AllReadyH.nil
                refine step_fun rfl _ _ _ rfl 27 _ rfl #[.pointer (some ⟨p, 0, none⟩)] rfl e27 (C9.out p _ _ HD.out.rd) ?_
                rintro y u37 ⟨v', rfl, hr, hg⟩
                refine ⟨_, rfl, ?_⟩
                have hd := DK.read HD.out hr hg
                refine hK.out _ _ hd.cel (fun hHeld2 => ?_)
                clear hK K hHeld
                have hHeld := hHeld2
                clear hHeld2
                try simp only [Act.put, List.setIfInBounds_toArray, List.set_cons_zero, List.set_cons_succ]
                have EQ := Lib.hid (And.intro (EQ.out.1.to (hg.block gm EQ.out.1.lt (by intro e; injection e with e; have := EQ.out.2; have := HD.out.hgr; omega))) EQ.out.2)
                have HD := Lib.hid hd
                clear hd hr hg
                refine wpAnyH_ready (rs := [19]) (by kernel_rfl) (by simp) ?_
                refine AllReadyH.cons (o := { dst := Option.some 31, op := Op.call { callee := Callee.value (Operand.tmp 30), args := #[], argTypes := #[] }, type := 3, pos := "bytes.go:44", after := #[{ on := 18, ground := Ground.data }, { on := 17, ground := Ground.chain }], guard := Option.none }) rfl (fun K hK => ?_) AllReadyH.nil
                refine step_fun rfl _ _ _ rfl 25 _ rfl #[.pointer (some ⟨gr, 0, none⟩)] rfl e25 (C10.out p gr _ _ (HS.out _ HD.out.bel) HD.out.cell HD.out.rd) ?_
                rintro y u38 ⟨v', rfl, hr, hg⟩
                refine ⟨_, rfl, ?_⟩
                have hd := DK.read HD.out hr hg
                refine hK.out _ _ hd.cel (fun hHeld2 => ?_)
                clear hK K hHeld
                have hHeld := hHeld2
                clear hHeld2
                try simp only [Act.put, List.setIfInBounds_toArray, List.set_cons_zero, List.set_cons_succ]
                have EQ := Lib.hid (And.intro (EQ.out.1.to (hg.block gm EQ.out.1.lt (by intro e; injection e with e; have := EQ.out.2; have := HD.out.hgr; omega))) EQ.out.2)
                have HD := Lib.hid hd
                clear hd hr hg
                have EQ0 := Lib.hid EQ.out.1.lt
                refine wpAnyH_ready (rs := [21]) (by kernel_rfl) (by simp) ?_
                refine AllReadyH.cons (o := { dst := Option.some 33, op := Op.call { callee := Callee.value (Operand.func 28), args := #[Operand.tmp 32, Operand.const (Value.int IntKind.i64 4096)], argTypes := #[49, 3] }, type := 22, pos := "bytes.go:45", after := #[{ on := 20, ground := Ground.data }, { on := 19, ground := Ground.chain }], guard := Option.none }) rfl (fun K hK => ?_) AllReadyH.nil
                refine step_fun rfl _ _ _ rfl 28 _ rfl #[.pointer (some ⟨p, 0, none⟩), .int .i64 4096] rfl e28 (C11.out p _ _ (HS.out _ HD.out.bel) HD.out.rd) ?_
                rintro y WF ⟨v', Ad, cd, rfl, hx, hr, hg⟩
                refine ⟨_, rfl, ?_⟩
                have hd := DK.read HD.out hr hg
                refine hK.out _ _ hd.cel (fun hHeld2 => ?_)
                clear hK K hHeld
                have hHeld := hHeld2
                clear hHeld2
                try simp only [Act.put, List.setIfInBounds_toArray, List.set_cons_zero, List.set_cons_succ]
                have EQ := Lib.hid (And.intro (EQ.out.1.to (hg.block gm EQ.out.1.lt (by intro e; injection e with e; have := EQ.out.2; have := HD.out.hgr; omega))) EQ.out.2)
                have XD := Lib.hid (hx.mono (T' := Tq W0 p gm WF) fun q hq => ⟨Nat.le_trans HD.out.bel.size hq.1, hq.2, by have := hq.1; have := HD.out.rd.lt; omega, by have := hq.1; have := EQ0.out; omega⟩)
                clear hx
                have HD := Lib.hid hd
                clear hd hr hg
                refine wpAnyH_take (i := 22) (oi := { dst := Option.some 34, op := Op.build 30 #[(0, Operand.tmp 13), (1, Operand.tmp 15), (2, Operand.tmp 17), (3, Operand.tmp 19), (4, Operand.tmp 21), (5, Operand.tmp 23), (6, Operand.tmp 25), (7, Operand.tmp 27), (8, Operand.tmp 29), (9, Operand.tmp 31), (10, Operand.tmp 33)], type := 30, pos := "bytes.go:34", after := #[{ on := 1, ground := Ground.data }, { on := 3, ground := Ground.data }, { on := 5, ground := Ground.data }, { on := 7, ground := Ground.data }, { on := 9, ground := Ground.data }, { on := 11, ground := Ground.data }, { on := 13, ground := Ground.data }, { on := 15, ground := Ground.data }, { on := 17, ground := Ground.data }, { on := 19, ground := Ground.data }, { on := 21, ground := Ground.data }], guard := Option.none }) (v := .agg #[.int .i64 (v1 : Int), .int .i64 (v2 : Int), .int .i64 (v3 : Int), .int .i64 (v4 : Int), .int .i64 (v5 : Int), .int .i64 (v6 : Int), .int .i64 (v7 : Int), .int .i64 (v8 : Int), .bool v9, .int .i64 (v10 : Int), .slice Ad n11 cd, .slice none 0 0]) rfl (by kernel_rfl) (by kernel_rfl) (by kernel_rfl) (fun _ _ _ h => h) (Or.inl ⟨by rfl, ?_⟩) hHeld ?_
                · intro W hSw
                  go_simp
                simp only [Act.put, List.setIfInBounds_toArray, List.set_cons_zero, List.set_cons_succ]
              rotate_left
              focus
                refine step_fun rfl _ _ _ rfl 25 _ rfl #[.pointer (some ⟨gr, 0, none⟩)] rfl e25 (C6.out p gr _ _ (HS.out _ HD.out.bel) HD.out.cell HD.out.rd) ?_
                rintro y u6 ⟨v', rfl, hr, hg⟩
                refine ⟨_, rfl, ?_⟩
                have hd := DK.read HD.out hr hg
                refine hK.out _ _ hd.cel (fun hHeld2 => ?_)
                clear hK K hHeld
                have hHeld := hHeld2
                clear hHeld2
                try simp only [Act.put, List.setIfInBounds_toArray, List.set_cons_zero, List.set_cons_succ]
                have HD := Lib.hid hd
                clear hd hr hg
                refine wpAnyH_ready (rs := [13, 23]) (by kernel_rfl) (by simp) ?_
                refine AllReadyH.cons (o := { dst := Option.some 25, op := Op.call { callee := Callee.value (Operand.tmp 24), args := #[], argTypes := #[] }, type := 3, pos := "bytes.go:41", after := #[{ on := 12, ground := Ground.data }, { on := 11, ground := Ground.chain }], guard := Option.none }) rfl (fun K hK => ?_) (AllReadyH.cons (o := { dst := Option.some 6, op := Op.alloc 30, type := 0, pos := "bytes.go:34", after := #[], guard := Option.none }) rfl (fun K hK => ?_) AllReadyH.nil)
                rotate_left
                focus
                  refine step_op' rfl ?_
                  go_simp
                  have hq := heap_alloc_new u6 (.cells #[.int .i64 0, .int .i64 0, .int .i64 0, .int .i64 0, .int .i64 0, .int .i64 0, .int .i64 0, .int .i64 0, .bool false, .int .i64 0, .slice none 0 0, .slice none 0 0] 30)
                  have hsb := below_alloc u6 (.cells #[.int .i64 0, .int .i64 0, .int .i64 0, .int .i64 0, .int .i64 0, .int .i64 0, .int .i64 0, .int .i64 0, .bool false, .int .i64 0, .slice none 0 0, .slice none 0 0] 30)
                  have hd := HD.out.more hsb
                  have hgl := HD.out.lt
                  refine hK.out _ _ hd.cel (fun hHeld2 => ?_)
                  clear hK K hHeld
                  have hHeld := hHeld2
                  clear hHeld2
                  try simp only [Act.put, List.setIfInBounds_toArray, List.set_cons_zero, List.set_cons_succ]
                  obtain ⟨u27, hVN⟩ : ∃ W, W = u6.alloc (.cells #[.int .i64 0, .int .i64 0, .int .i64 0, .int .i64 0, .int .i64 0, .int .i64 0, .int .i64 0, .int .i64 0, .bool false, .int .i64 0, .slice none 0 0, .slice none 0 0] 30) := ⟨_, rfl⟩
                  obtain ⟨gm, hgm⟩ : ∃ g, g = u6.heap.size := ⟨_, rfl⟩
                  rw [← hVN] at hq hsb hd hHeld ⊢
                  rw [← hgm] at hq hgl ⊢
                  have EQ := Lib.hid (And.intro (show N12 u27 gm (.int .i64 0) (.int .i64 0) (.int .i64 0) (.int .i64 0) (.int .i64 0) (.int .i64 0) (.int .i64 0) (.int .i64 0) (.bool false) (.int .i64 0) (.slice none 0 0) (.slice none 0 0) from hq) hgl)
                  have EQ0 := Lib.hid (obj_lt hq)
                  have HD := Lib.hid hd
                  clear hq hsb hd hgl hVN hgm
                  refine wpAnyH_ready (rs := [13]) (by kernel_rfl) (by simp) ?_
                  refine AllReadyH.cons (o := { dst := Option.some 25, op := Op.call { callee := Callee.value (Operand.tmp 24), args := #[], argTypes := #[] }, type := 3, pos := "bytes.go:41", after := #[{ on := 12, ground := Ground.data }, { on := 11, ground := Ground.chain }], guard := Option.none }) rfl (fun K hK => ?_) AllReadyH.nil
                  refine step_fun rfl _ _ _ rfl 25 _ rfl #[.pointer (some ⟨gr, 0, none⟩)] rfl e25 (C7.out p gr _ _ (HS.out _ HD.out.bel) HD.out.cell HD.out.rd) ?_
                  rintro y u28 ⟨v', rfl, hr, hg⟩
                  refine ⟨_, rfl, ?_⟩
                  have hd := DK.read HD.out hr hg
                  refine hK.out _ _ hd.cel (fun hHeld2 => ?_)
                  clear hK K hHeld
                  have hHeld := hHeld2
                  clear hHeld2
                  try simp only [Act.put, List.setIfInBounds_toArray, List.set_cons_zero, List.set_cons_succ]
                  have EQ := Lib.hid (And.intro (EQ.out.1.to (hg.block gm EQ.out.1.lt (by intro e; injection e with e; have := EQ.out.2; have := HD.out.hgr; omega))) EQ.out.2)
                  have HD := Lib.hid hd
                  clear hd hr hg
                  refine wpAnyH_ready (rs := [15]) (by kernel_rfl) (by simp) ?_
                  refine AllReadyH.cons (o := { dst := Option.some 27, op := Op.call { callee := Callee.value (Operand.tmp 26), args := #[], argTypes := #[] }, type := 3, pos := "bytes.go:42", after := #[{ on := 14, ground := Ground.data }, { on := 13, ground := Ground.chain }], guard := Option.none }) rfl (fun K hK => ?_) AllReadyH.nil
                  refine step_fun rfl _ _ _ rfl 25 _ rfl #[.pointer (some ⟨gr, 0, none⟩)] rfl e25 (C8.out p gr _ _ (HS.out _ HD.out.bel) HD.out.cell HD.out.rd) ?_
                  rintro y u29 ⟨v', rfl, hr, hg⟩
                  refine ⟨_, rfl, ?_⟩
                  have hd := DK.read HD.out hr hg
                  refine hK.out _ _ hd.cel (fun hHeld2 => ?_)
                  clear hK K hHeld
                  have hHeld := hHeld2
                  clear hHeld2
                  try simp only [Act.put, List.setIfInBounds_toArray, List.set_cons_zero, List.set_cons_succ]
                  have EQ := Lib.hid (And.intro (EQ.out.1.to (hg.block gm EQ.out.1.lt (by intro e; injection e with e; have := EQ.out.2; have := HD.out.hgr; omega))) EQ.out.2)
                  have HD := Lib.hid hd
                  clear hd hr hg
                  refine wpAnyH_ready (rs := [17]) (by kernel_rfl) (by simp) ?_
                  refine AllReadyH.cons (o := { dst := Option.some 29, op := Op.call { callee := Callee.value (Operand.func 27), args := #[Operand.tmp 28], argTypes := #[49] }, type := 4, pos := "bytes.go:43", after := #[{ on := 16, ground := Ground.data }, { on := 15, ground := Ground.chain }], guard := Option.none }) rfl (fun K hK => ?_) AllReadyH.nil
                  refine step_fun rfl _ _ _ rfl 27 _ rfl #[.pointer (some ⟨p, 0, none⟩)] rfl e27 (C9.out p _ _ HD.out.rd) ?_
                  rintro y u30 ⟨v', rfl, hr, hg⟩
                  refine ⟨_, rfl, ?_⟩
                  have hd := DK.read HD.out hr hg
                  refine hK.out _ _ hd.cel (fun hHeld2 => ?_)
                  clear hK K hHeld
                  have hHeld := hHeld2
                  clear hHeld2
                  try simp only [Act.put, List.setIfInBounds_toArray, List.set_cons_zero, List.set_cons_succ]
                  have EQ := Lib.hid (And.intro (EQ.out.1.to (hg.block gm EQ.out.1.lt (by intro e; injection e with e; have := EQ.out.2; have := HD.out.hgr; omega))) EQ.out.2)
                  have HD := Lib.hid hd
                  clear hd hr hg
                  refine wpAnyH_ready (rs := [19]) (by kernel_rfl) (by simp) ?_
                  refine AllReadyH.cons (o := { dst := Option.some 31, op := Op.call { callee := Callee.value (Operand.tmp 30), args := #[], argTypes := #[] }, type := 3, pos := "bytes.go:44", after := #[{ on := 18, ground := Ground.data }, { on := 17, ground := Ground.chain }], guard := Option.none }) rfl (fun K hK => ?_) AllReadyH.nil
                  refine step_fun rfl _ _ _ rfl 25 _ rfl #[.pointer (some ⟨gr, 0, none⟩)] rfl e25 (C10.out p gr _ _ (HS.out _ HD.out.bel) HD.out.cell HD.out.rd) ?_
                  rintro y u31 ⟨v', rfl, hr, hg⟩
                  refine ⟨_, rfl, ?_⟩
                  have hd := DK.read HD.out hr hg
                  refine hK.out _ _ hd.cel (fun hHeld2 => ?_)
                  clear hK K hHeld
                  have hHeld := hHeld2
                  clear hHeld2
                  try simp only [Act.put, List.setIfInBounds_toArray, List.set_cons_zero, List.set_cons_succ]
                  have EQ := Lib.hid (And.intro (EQ.out.1.to (hg.block gm EQ.out.1.lt (by intro e; injection e with e; have := EQ.out.2; have := HD.out.hgr; omega))) EQ.out.2)
                  have HD := Lib.hid hd
                  clear hd hr hg
                  have EQ0 := Lib.hid EQ.out.1.lt
                  refine wpAnyH_ready (rs := [21]) (by kernel_rfl) (by simp) ?_
                  refine AllReadyH.cons (o := { dst := Option.some 33, op := Op.call { callee := Callee.value (Operand.func 28), args := #[Operand.tmp 32, Operand.const (Value.int IntKind.i64 4096)], argTypes := #[49, 3] }, type := 22, pos := "bytes.go:45", after := #[{ on := 20, ground := Ground.data }, { on := 19, ground := Ground.chain }], guard := Option.none }) rfl (fun K hK => ?_) AllReadyH.nil
                  refine step_fun rfl _ _ _ rfl 28 _ rfl #[.pointer (some ⟨p, 0, none⟩), .int .i64 4096] rfl e28 (C11.out p _ _ (HS.out _ HD.out.bel) HD.out.rd) ?_
                  rintro y WF ⟨v', Ad, cd, rfl, hx, hr, hg⟩
                  refine ⟨_, rfl, ?_⟩
                  have hd := DK.read HD.out hr hg
                  refine hK.out _ _ hd.cel (fun hHeld2 => ?_)
                  clear hK K hHeld
                  have hHeld := hHeld2
                  clear hHeld2
                  try simp only [Act.put, List.setIfInBounds_toArray, List.set_cons_zero, List.set_cons_succ]
                  have EQ := Lib.hid (And.intro (EQ.out.1.to (hg.block gm EQ.out.1.lt (by intro e; injection e with e; have := EQ.out.2; have := HD.out.hgr; omega))) EQ.out.2)
                  have XD := Lib.hid (hx.mono (T' := Tq W0 p gm WF) fun q hq => ⟨Nat.le_trans HD.out.bel.size hq.1, hq.2, by have := hq.1; have := HD.out.rd.lt; omega, by have := hq.1; have := EQ0.out; omega⟩)
                  clear hx
                  have HD := Lib.hid hd
                  clear hd hr hg
                  refine wpAnyH_take (i := 22) (oi := { dst := Option.some 34, op := Op.build 30 #[(0, Operand.tmp 13), (1, Operand.tmp 15), (2, Operand.tmp 17), (3, Operand.tmp 19), (4, Operand.tmp 21), (5, Operand.tmp 23), (6, Operand.tmp 25), (7, Operand.tmp 27), (8, Operand.tmp 29), (9, Operand.tmp 31), (10, Operand.tmp 33)], type := 30, pos := "bytes.go:34", after := #[{ on := 1, ground := Ground.data }, { on := 3, ground := Ground.data }, { on := 5, ground := Ground.data }, { on := 7, ground := Ground.data }, { on := 9, ground := Ground.data }, { on := 11, ground := Ground.data }, { on := 13, ground := Ground.data }, { on := 15, ground := Ground.data }, { on := 17, ground := Ground.data }, { on := 19, ground := Ground.data }, { on := 21, ground := Ground.data }], guard := Option.none }) (v := .agg #[.int .i64 (v1 : Int), .int .i64 (v2 : Int), .int .i64 (v3 : Int), .int .i64 (v4 : Int), .int .i64 (v5 : Int), .int .i64 (v6 : Int), .int .i64 (v7 : Int), .int .i64 (v8 : Int), .bool v9, .int .i64 (v10 : Int), .slice Ad n11 cd, .slice none 0 0]) rfl (by kernel_rfl) (by kernel_rfl) (by kernel_rfl) (fun _ _ _ h => h) (Or.inl ⟨by rfl, ?_⟩) hHeld ?_
                  · intro W hSw
                    go_simp
                  simp only [Act.put, List.setIfInBounds_toArray, List.set_cons_zero, List.set_cons_succ]
                rotate_left
                focus
                  refine step_fun rfl _ _ _ rfl 25 _ rfl #[.pointer (some ⟨gr, 0, none⟩)] rfl e25 (C7.out p gr _ _ (HS.out _ HD.out.bel) HD.out.cell HD.out.rd) ?_
                  rintro y u7 ⟨v', rfl, hr, hg⟩
                  refine ⟨_, rfl, ?_⟩
                  have hd := DK.read HD.out hr hg
                  refine hK.out _ _ hd.cel (fun hHeld2 => ?_)
                  clear hK K hHeld
                  have hHeld := hHeld2
                  clear hHeld2
                  try simp only [Act.put, List.setIfInBounds_toArray, List.set_cons_zero, List.set_cons_succ]
                  have HD := Lib.hid hd
                  clear hd hr hg
                  refine wpAnyH_ready (rs := [15, 23]) (by kernel_rfl) (by simp) ?_
                  refine AllReadyH.cons (o := { dst := Option.some 27, op := Op.call { callee := Callee.value (Operand.tmp 26), args := #[], argTypes := #[] }, type := 3, pos := "bytes.go:42", after := #[{ on := 14, ground := Ground.data }, { on := 13, ground := Ground.chain }], guard := Option.none }) rfl (fun K hK => ?_) (AllReadyH.cons (o := { dst := Option.some 6, op := Op.alloc 30, type := 0, pos := "bytes.go:34", after := #[], guard := Option.none }) rfl (fun K hK => ?_) AllReadyH.nil)
                  rotate_left
                  focus
                    refine step_op' rfl ?_
                    go_simp
                    have hq := heap_alloc_new u7 (.cells #[.int .i64 0, .int .i64 0, .int .i64 0, .int .i64 0, .int .i64 0, .int .i64 0, .int .i64 0, .int .i64 0, .bool false, .int .i64 0, .slice none 0 0, .slice none 0 0] 30)
                    have hsb := below_alloc u7 (.cells #[.int .i64 0, .int .i64 0, .int .i64 0, .int .i64 0, .int .i64 0, .int .i64 0, .int .i64 0, .int .i64 0, .bool false, .int .i64 0, .slice none 0 0, .slice none 0 0] 30)
                    have hd := HD.out.more hsb
                    have hgl := HD.out.lt
                    refine hK.out _ _ hd.cel (fun hHeld2 => ?_)
                    clear hK K hHeld
                    have hHeld := hHeld2
                    clear hHeld2
                    try simp only [Act.put, List.setIfInBounds_toArray, List.set_cons_zero, List.set_cons_succ]
                    obtain ⟨u22, hVN⟩ : ∃ W, W = u7.alloc (.cells #[.int .i64 0, .int .i64 0, .int .i64 0, .int .i64 0, .int .i64 0, .int .i64 0, .int .i64 0, .int .i64 0, .bool false, .int .i64 0, .slice none 0 0, .slice none 0 0] 30) := ⟨_, rfl⟩
                    obtain ⟨gm, hgm⟩ : ∃ g, g = u7.heap.size := ⟨_, rfl⟩
                    rw [← hVN] at hq hsb hd hHeld ⊢
                    rw [← hgm] at hq hgl ⊢
                    have EQ := Lib.hid (And.intro (show N12 u22 gm (.int .i64 0) (.int .i64 0) (.int .i64 0) (.int .i64 0) (.int .i64 0) (.int .i64 0) (.int .i64 0) (.int .i64 0) (.bool false) (.int .i64 0) (.slice none 0 0) (.slice none 0 0) from hq) hgl)
                    have EQ0 := Lib.hid (obj_lt hq)
                    have HD := Lib.hid hd
                    clear hq hsb hd hgl hVN hgm
                    refine wpAnyH_ready (rs := [15]) (by kernel_rfl) (by simp) ?_
                    refine AllReadyH.cons (o := { dst := Option.some 27, op := Op.call { callee := Callee.value (Operand.tmp 26), args := #[], argTypes := #[] }, type := 3, pos := "bytes.go:42", after := #[{ on := 14, ground := Ground.data }, { on := 13, ground := Ground.chain }], guard := Option.none }) rfl (fun K hK => ?_) AllReadyH.nil
                    refine step_fun rfl _ _ _ rfl 25 _ rfl #[.pointer (some ⟨gr, 0, none⟩)] rfl e25 (C8.out p gr _ _ (HS.out _ HD.out.bel) HD.out.cell HD.out.rd) ?_
                    rintro y u23 ⟨v', rfl, hr, hg⟩
                    refine ⟨_, rfl, ?_⟩
                    have hd := DK.read HD.out hr hg
                    refine hK.out _ _ hd.cel (fun hHeld2 => ?_)
                    clear hK K hHeld
                    have hHeld := hHeld2
                    clear hHeld2
                    try simp only [Act.put, List.setIfInBounds_toArray, List.set_cons_zero, List.set_cons_succ]
                    have EQ := Lib.hid (And.intro (EQ.out.1.to (hg.block gm EQ.out.1.lt (by intro e; injection e with e; have := EQ.out.2; have := HD.out.hgr; omega))) EQ.out.2)
                    have HD := Lib.hid hd
                    clear hd hr hg
                    refine wpAnyH_ready (rs := [17]) (by kernel_rfl) (by simp) ?_
                    refine AllReadyH.cons (o := { dst := Option.some 29, op := Op.call { callee := Callee.value (Operand.func 27), args := #[Operand.tmp 28], argTypes := #[49] }, type := 4, pos := "bytes.go:43", after := #[{ on := 16, ground := Ground.data }, { on := 15, ground := Ground.chain }], guard := Option.none }) rfl (fun K hK => ?_) AllReadyH.nil
                    refine step_fun rfl _ _ _ rfl 27 _ rfl #[.pointer (some ⟨p, 0, none⟩)] rfl e27 (C9.out p _ _ HD.out.rd) ?_
                    rintro y u24 ⟨v', rfl, hr, hg⟩
                    refine ⟨_, rfl, ?_⟩
                    have hd := DK.read HD.out hr hg
                    refine hK.out _ _ hd.cel (fun hHeld2 => ?_)
                    clear hK K hHeld
                    have hHeld := hHeld2
                    clear hHeld2
                    try simp only [Act.put, List.setIfInBounds_toArray, List.set_cons_zero, List.set_cons_succ]
                    have EQ := Lib.hid (And.intro (EQ.out.1.to (hg.block gm EQ.out.1.lt (by intro e; injection e with e; have := EQ.out.2; have := HD.out.hgr; omega))) EQ.out.2)
                    have HD := Lib.hid hd
                    clear hd hr hg
                    refine wpAnyH_ready (rs := [19]) (by kernel_rfl) (by simp) ?_
                    refine AllReadyH.cons (o := { dst := Option.some 31, op := Op.call { callee := Callee.value (Operand.tmp 30), args := #[], argTypes := #[] }, type := 3, pos := "bytes.go:44", after := #[{ on := 18, ground := Ground.data }, { on := 17, ground := Ground.chain }], guard := Option.none }) rfl (fun K hK => ?_) AllReadyH.nil
                    refine step_fun rfl _ _ _ rfl 25 _ rfl #[.pointer (some ⟨gr, 0, none⟩)] rfl e25 (C10.out p gr _ _ (HS.out _ HD.out.bel) HD.out.cell HD.out.rd) ?_
                    rintro y u25 ⟨v', rfl, hr, hg⟩
                    refine ⟨_, rfl, ?_⟩
                    have hd := DK.read HD.out hr hg
                    refine hK.out _ _ hd.cel (fun hHeld2 => ?_)
                    clear hK K hHeld
                    have hHeld := hHeld2
                    clear hHeld2
                    try simp only [Act.put, List.setIfInBounds_toArray, List.set_cons_zero, List.set_cons_succ]
                    have EQ := Lib.hid (And.intro (EQ.out.1.to (hg.block gm EQ.out.1.lt (by intro e; injection e with e; have := EQ.out.2; have := HD.out.hgr; omega))) EQ.out.2)
                    have HD := Lib.hid hd
                    clear hd hr hg
                    have EQ0 := Lib.hid EQ.out.1.lt
                    refine wpAnyH_ready (rs := [21]) (by kernel_rfl) (by simp) ?_
                    refine AllReadyH.cons (o := { dst := Option.some 33, op := Op.call { callee := Callee.value (Operand.func 28), args := #[Operand.tmp 32, Operand.const (Value.int IntKind.i64 4096)], argTypes := #[49, 3] }, type := 22, pos := "bytes.go:45", after := #[{ on := 20, ground := Ground.data }, { on := 19, ground := Ground.chain }], guard := Option.none }) rfl (fun K hK => ?_) AllReadyH.nil
                    refine step_fun rfl _ _ _ rfl 28 _ rfl #[.pointer (some ⟨p, 0, none⟩), .int .i64 4096] rfl e28 (C11.out p _ _ (HS.out _ HD.out.bel) HD.out.rd) ?_
                    rintro y WF ⟨v', Ad, cd, rfl, hx, hr, hg⟩
                    refine ⟨_, rfl, ?_⟩
                    have hd := DK.read HD.out hr hg
                    refine hK.out _ _ hd.cel (fun hHeld2 => ?_)
                    clear hK K hHeld
                    have hHeld := hHeld2
                    clear hHeld2
                    try simp only [Act.put, List.setIfInBounds_toArray, List.set_cons_zero, List.set_cons_succ]
                    have EQ := Lib.hid (And.intro (EQ.out.1.to (hg.block gm EQ.out.1.lt (by intro e; injection e with e; have := EQ.out.2; have := HD.out.hgr; omega))) EQ.out.2)
                    have XD := Lib.hid (hx.mono (T' := Tq W0 p gm WF) fun q hq => ⟨Nat.le_trans HD.out.bel.size hq.1, hq.2, by have := hq.1; have := HD.out.rd.lt; omega, by have := hq.1; have := EQ0.out; omega⟩)
                    clear hx
                    have HD := Lib.hid hd
                    clear hd hr hg
                    refine wpAnyH_take (i := 22) (oi := { dst := Option.some 34, op := Op.build 30 #[(0, Operand.tmp 13), (1, Operand.tmp 15), (2, Operand.tmp 17), (3, Operand.tmp 19), (4, Operand.tmp 21), (5, Operand.tmp 23), (6, Operand.tmp 25), (7, Operand.tmp 27), (8, Operand.tmp 29), (9, Operand.tmp 31), (10, Operand.tmp 33)], type := 30, pos := "bytes.go:34", after := #[{ on := 1, ground := Ground.data }, { on := 3, ground := Ground.data }, { on := 5, ground := Ground.data }, { on := 7, ground := Ground.data }, { on := 9, ground := Ground.data }, { on := 11, ground := Ground.data }, { on := 13, ground := Ground.data }, { on := 15, ground := Ground.data }, { on := 17, ground := Ground.data }, { on := 19, ground := Ground.data }, { on := 21, ground := Ground.data }], guard := Option.none }) (v := .agg #[.int .i64 (v1 : Int), .int .i64 (v2 : Int), .int .i64 (v3 : Int), .int .i64 (v4 : Int), .int .i64 (v5 : Int), .int .i64 (v6 : Int), .int .i64 (v7 : Int), .int .i64 (v8 : Int), .bool v9, .int .i64 (v10 : Int), .slice Ad n11 cd, .slice none 0 0]) rfl (by kernel_rfl) (by kernel_rfl) (by kernel_rfl) (fun _ _ _ h => h) (Or.inl ⟨by rfl, ?_⟩) hHeld ?_
                    · intro W hSw
                      go_simp
                    simp only [Act.put, List.setIfInBounds_toArray, List.set_cons_zero, List.set_cons_succ]
                  rotate_left
                  focus
                    refine step_fun rfl _ _ _ rfl 25 _ rfl #[.pointer (some ⟨gr, 0, none⟩)] rfl e25 (C8.out p gr _ _ (HS.out _ HD.out.bel) HD.out.cell HD.out.rd) ?_
                    rintro y u8 ⟨v', rfl, hr, hg⟩
                    refine ⟨_, rfl, ?_⟩
                    have hd := DK.read HD.out hr hg
                    refine hK.out _ _ hd.cel (fun hHeld2 => ?_)
                    clear hK K hHeld
                    have hHeld := hHeld2
                    clear hHeld2
                    try simp only [Act.put, List.setIfInBounds_toArray, List.set_cons_zero, List.set_cons_succ]
                    have HD := Lib.hid hd
                    clear hd hr hg
                    refine wpAnyH_ready (rs := [17, 23]) (by kernel_rfl) (by simp) ?_
                    refine AllReadyH.cons (o := { dst := Option.some 29, op := Op.call { callee := Callee.value (Operand.func 27), args := #[Operand.tmp 28], argTypes := #[49] }, type := 4, pos := "bytes.go:43", after := #[{ on := 16, ground := Ground.data }, { on := 15, ground := Ground.chain }], guard := Option.none }) rfl (fun K hK => ?_) (AllReadyH.cons (o := { dst := Option.some 6, op := Op.alloc 30, type := 0, pos := "bytes.go:34", after := #[], guard := Option.none }) rfl (fun K hK => ?_) AllReadyH.nil)
                    rotate_left
                    focus
                      refine step_op' rfl ?_
                      go_simp
                      have hq := heap_alloc_new u8 (.cells #[.int .i64 0, .int .i64 0, .int .i64 0, .int .i64 0, .int .i64 0, .int .i64 0, .int .i64 0, .int .i64 0, .bool false, .int .i64 0, .slice none 0 0, .slice none 0 0] 30)
                      have hsb := below_alloc u8 (.cells #[.int .i64 0, .int .i64 0, .int .i64 0, .int .i64 0, .int .i64 0, .int .i64 0, .int .i64 0, .int .i64 0, .bool false, .int .i64 0, .slice none 0 0, .slice none 0 0] 30)
                      have hd := HD.out.more hsb
                      have hgl := HD.out.lt
                      refine hK.out _ _ hd.cel (fun hHeld2 => ?_)
                      clear hK K hHeld
                      have hHeld := hHeld2
                      clear hHeld2
                      try simp only [Act.put, List.setIfInBounds_toArray, List.set_cons_zero, List.set_cons_succ]
                      obtain ⟨u18, hVN⟩ : ∃ W, W = u8.alloc (.cells #[.int .i64 0, .int .i64 0, .int .i64 0, .int .i64 0, .int .i64 0, .int .i64 0, .int .i64 0, .int .i64 0, .bool false, .int .i64 0, .slice none 0 0, .slice none 0 0] 30) := ⟨_, rfl⟩
                      obtain ⟨gm, hgm⟩ : ∃ g, g = u8.heap.size := ⟨_, rfl⟩
                      rw [← hVN] at hq hsb hd hHeld ⊢
                      rw [← hgm] at hq hgl ⊢
                      have EQ := Lib.hid (And.intro (show N12 u18 gm (.int .i64 0) (.int .i64 0) (.int .i64 0) (.int .i64 0) (.int .i64 0) (.int .i64 0) (.int .i64 0) (.int .i64 0) (.bool false) (.int .i64 0) (.slice none 0 0) (.slice none 0 0) from hq) hgl)
                      have EQ0 := Lib.hid (obj_lt hq)
                      have HD := Lib.hid hd
                      clear hq hsb hd hgl hVN hgm
                      refine wpAnyH_ready (rs := [17]) (by kernel_rfl) (by simp) ?_
                      refine AllReadyH.cons (o := { dst := Option.some 29, op := Op.call { callee := Callee.value (Operand.func 27), args := #[Operand.tmp 28], argTypes := #[49] }, type := 4, pos := "bytes.go:43", after := #[{ on := 16, ground := Ground.data }, { on := 15, ground := Ground.chain }], guard := Option.none }) rfl (fun K hK => ?_) AllReadyH.nil
                      refine step_fun rfl _ _ _ rfl 27 _ rfl #[.pointer (some ⟨p, 0, none⟩)] rfl e27 (C9.out p _ _ HD.out.rd) ?_
                      rintro y u19 ⟨v', rfl, hr, hg⟩
                      refine ⟨_, rfl, ?_⟩
                      have hd := DK.read HD.out hr hg
                      refine hK.out _ _ hd.cel (fun hHeld2 => ?_)
                      clear hK K hHeld
                      have hHeld := hHeld2
                      clear hHeld2
                      try simp only [Act.put, List.setIfInBounds_toArray, List.set_cons_zero, List.set_cons_succ]
                      have EQ := Lib.hid (And.intro (EQ.out.1.to (hg.block gm EQ.out.1.lt (by intro e; injection e with e; have := EQ.out.2; have := HD.out.hgr; omega))) EQ.out.2)
                      have HD := Lib.hid hd
                      clear hd hr hg
                      refine wpAnyH_ready (rs := [19]) (by kernel_rfl) (by simp) ?_
                      refine AllReadyH.cons (o := { dst := Option.some 31, op := Op.call { callee := Callee.value (Operand.tmp 30), args := #[], argTypes := #[] }, type := 3, pos := "bytes.go:44", after := #[{ on := 18, ground := Ground.data }, { on := 17, ground := Ground.chain }], guard := Option.none }) rfl (fun K hK => ?_) AllReadyH.nil
                      refine step_fun rfl _ _ _ rfl 25 _ rfl #[.pointer (some ⟨gr, 0, none⟩)] rfl e25 (C10.out p gr _ _ (HS.out _ HD.out.bel) HD.out.cell HD.out.rd) ?_
                      rintro y u20 ⟨v', rfl, hr, hg⟩
                      refine ⟨_, rfl, ?_⟩
                      have hd := DK.read HD.out hr hg
                      refine hK.out _ _ hd.cel (fun hHeld2 => ?_)
                      clear hK K hHeld
                      have hHeld := hHeld2
                      clear hHeld2
                      try simp only [Act.put, List.setIfInBounds_toArray, List.set_cons_zero, List.set_cons_succ]
                      have EQ := Lib.hid (And.intro (EQ.out.1.to (hg.block gm EQ.out.1.lt (by intro e; injection e with e; have := EQ.out.2; have := HD.out.hgr; omega))) EQ.out.2)
                      have HD := Lib.hid hd
                      clear hd hr hg
                      have EQ0 := Lib.hid EQ.out.1.lt
                      refine wpAnyH_ready (rs := [21]) (by kernel_rfl) (by simp) ?_
                      refine AllReadyH.cons (o := { dst := Option.some 33, op := Op.call { callee := Callee.value (Operand.func 28), args := #[Operand.tmp 32, Operand.const (Value.int IntKind.i64 4096)], argTypes := #[49, 3] }, type := 22, pos := "bytes.go:45", after := #[{ on := 20, ground := Ground.data }, { on := 19, ground := Ground.chain }], guard := Option.none }) rfl (fun K hK => ?_) AllReadyH.nil
                      refine step_fun rfl _ _ _ rfl 28 _ rfl #[.pointer (some ⟨p, 0, none⟩), .int .i64 4096] rfl e28 (C11.out p _ _ (HS.out _ HD.out.bel) HD.out.rd) ?_
                      rintro y WF ⟨v', Ad, cd, rfl, hx, hr, hg⟩
                      refine ⟨_, rfl, ?_⟩
                      have hd := DK.read HD.out hr hg
                      refine hK.out _ _ hd.cel (fun hHeld2 => ?_)
                      clear hK K hHeld
                      have hHeld := hHeld2
                      clear hHeld2
                      try simp only [Act.put, List.setIfInBounds_toArray, List.set_cons_zero, List.set_cons_succ]
                      have EQ := Lib.hid (And.intro (EQ.out.1.to (hg.block gm EQ.out.1.lt (by intro e; injection e with e; have := EQ.out.2; have := HD.out.hgr; omega))) EQ.out.2)
                      have XD := Lib.hid (hx.mono (T' := Tq W0 p gm WF) fun q hq => ⟨Nat.le_trans HD.out.bel.size hq.1, hq.2, by have := hq.1; have := HD.out.rd.lt; omega, by have := hq.1; have := EQ0.out; omega⟩)
                      clear hx
                      have HD := Lib.hid hd
                      clear hd hr hg
                      refine wpAnyH_take (i := 22) (oi := { dst := Option.some 34, op := Op.build 30 #[(0, Operand.tmp 13), (1, Operand.tmp 15), (2, Operand.tmp 17), (3, Operand.tmp 19), (4, Operand.tmp 21), (5, Operand.tmp 23), (6, Operand.tmp 25), (7, Operand.tmp 27), (8, Operand.tmp 29), (9, Operand.tmp 31), (10, Operand.tmp 33)], type := 30, pos := "bytes.go:34", after := #[{ on := 1, ground := Ground.data }, { on := 3, ground := Ground.data }, { on := 5, ground := Ground.data }, { on := 7, ground := Ground.data }, { on := 9, ground := Ground.data }, { on := 11, ground := Ground.data }, { on := 13, ground := Ground.data }, { on := 15, ground := Ground.data }, { on := 17, ground := Ground.data }, { on := 19, ground := Ground.data }, { on := 21, ground := Ground.data }], guard := Option.none }) (v := .agg #[.int .i64 (v1 : Int), .int .i64 (v2 : Int), .int .i64 (v3 : Int), .int .i64 (v4 : Int), .int .i64 (v5 : Int), .int .i64 (v6 : Int), .int .i64 (v7 : Int), .int .i64 (v8 : Int), .bool v9, .int .i64 (v10 : Int), .slice Ad n11 cd, .slice none 0 0]) rfl (by kernel_rfl) (by kernel_rfl) (by kernel_rfl) (fun _ _ _ h => h) (Or.inl ⟨by rfl, ?_⟩) hHeld ?_
                      · intro W hSw
                        go_simp
                      simp only [Act.put, List.setIfInBounds_toArray, List.set_cons_zero, List.set_cons_succ]
                    rotate_left
                    focus
                      refine step_fun rfl _ _ _ rfl 27 _ rfl #[.pointer (some ⟨p, 0, none⟩)] rfl e27 (C9.out p _ _ HD.out.rd) ?_
                      rintro y u9 ⟨v', rfl, hr, hg⟩
                      refine ⟨_, rfl, ?_⟩
                      have hd := DK.read HD.out hr hg
                      refine hK.out _ _ hd.cel (fun hHeld2 => ?_)
                      clear hK K hHeld
                      have hHeld := hHeld2
                      clear hHeld2
                      try simp only [Act.put, List.setIfInBounds_toArray, List.set_cons_zero, List.set_cons_succ]
                      have HD := Lib.hid hd
                      clear hd hr hg
                      refine wpAnyH_ready (rs := [19, 23]) (by kernel_rfl) (by simp) ?_
                      refine AllReadyH.cons (o := { dst := Option.some 31, op := Op.call { callee := Callee.value (Operand.tmp 30), args := #[], argTypes := #[] }, type := 3, pos := "bytes.go:44", after := #[{ on := 18, ground := Ground.data }, { on := 17, ground := Ground.chain }], guard := Option.none }) rfl (fun K hK => ?_) (AllReadyH.cons (o := { dst := Option.some 6, op := Op.alloc 30, type := 0, pos := "bytes.go:34", after := #[], guard := Option.none }) rfl (fun K hK => ?_) AllReadyH.nil)
                      rotate_left
                      focus
                        refine step_op' rfl ?_
                        go_simp
                        have hq := heap_alloc_new u9 (.cells #[.int .i64 0, .int .i64 0, .int .i64 0, .int .i64 0, .int .i64 0, .int .i64 0, .int .i64 0, .int .i64 0, .bool false, .int .i64 0, .slice none 0 0, .slice none 0 0] 30)
                        have hsb := below_alloc u9 (.cells #[.int .i64 0, .int .i64 0, .int .i64 0, .int .i64 0, .int .i64 0, .int .i64 0, .int .i64 0, .int .i64 0, .bool false, .int .i64 0, .slice none 0 0, .slice none 0 0] 30)
                        have hd := HD.out.more hsb
                        have hgl := HD.out.lt
                        refine hK.out _ _ hd.cel (fun hHeld2 => ?_)
                        clear hK K hHeld
                        have hHeld := hHeld2
                        clear hHeld2
                        try simp only [Act.put, List.setIfInBounds_toArray, List.set_cons_zero, List.set_cons_succ]
                        obtain ⟨u15, hVN⟩ : ∃ W, W = u9.alloc (.cells #[.int .i64 0, .int .i64 0, .int .i64 0, .int .i64 0, .int .i64 0, .int .i64 0, .int .i64 0, .int .i64 0, .bool false, .int .i64 0, .slice none 0 0, .slice none 0 0] 30) := ⟨_, rfl⟩
                        obtain ⟨gm, hgm⟩ : ∃ g, g = u9.heap.size := ⟨_, rfl⟩
                        rw [← hVN] at hq hsb hd hHeld ⊢
                        rw [← hgm] at hq hgl ⊢
                        have EQ := Lib.hid (And.intro (show N12 u15 gm (.int .i64 0) (.int .i64 0) (.int .i64 0) (.int .i64 0) (.int .i64 0) (.int .i64 0) (.int .i64 0) (.int .i64 0) (.bool false) (.int .i64 0) (.slice none 0 0) (.slice none 0 0) from hq) hgl)
                        have EQ0 := Lib.hid (obj_lt hq)
                        have HD := Lib.hid hd
                        clear hq hsb hd hgl hVN hgm
                        refine wpAnyH_ready (rs := [19]) (by kernel_rfl) (by simp) ?_
                        refine AllReadyH.cons (o := { dst := Option.some 31, op := Op.call { callee := Callee.value (Operand.tmp 30), args := #[], argTypes := #[] }, type := 3, pos := "bytes.go:44", after := #[{ on := 18, ground := Ground.data }, { on := 17, ground := Ground.chain }], guard := Option.none }) rfl (fun K hK => ?_) AllReadyH.nil
                        refine step_fun rfl _ _ _ rfl 25 _ rfl #[.pointer (some ⟨gr, 0, none⟩)] rfl e25 (C10.out p gr _ _ (HS.out _ HD.out.bel) HD.out.cell HD.out.rd) ?_
                        rintro y u16 ⟨v', rfl, hr, hg⟩
                        refine ⟨_, rfl, ?_⟩
                        have hd := DK.read HD.out hr hg
                        refine hK.out _ _ hd.cel (fun hHeld2 => ?_)
                        clear hK K hHeld
                        have hHeld := hHeld2
                        clear hHeld2
                        try simp only [Act.put, List.setIfInBounds_toArray, List.set_cons_zero, List.set_cons_succ]
                        have EQ := Lib.hid (And.intro (EQ.out.1.to (hg.block gm EQ.out.1.lt (by intro e; injection e with e; have := EQ.out.2; have := HD.out.hgr; omega))) EQ.out.2)
                        have HD := Lib.hid hd
                        clear hd hr hg
                        have EQ0 := Lib.hid EQ.out.1.lt
                        refine wpAnyH_ready (rs := [21]) (by kernel_rfl) (by simp) ?_
                        refine AllReadyH.cons (o := { dst := Option.some 33, op := Op.call { callee := Callee.value (Operand.func 28), args := #[Operand.tmp 32, Operand.const (Value.int IntKind.i64 4096)], argTypes := #[49, 3] }, type := 22, pos := "bytes.go:45", after := #[{ on := 20, ground := Ground.data }, { on := 19, ground := Ground.chain }], guard := Option.none }) rfl (fun K hK => ?_) AllReadyH.nil
                        refine step_fun rfl _ _ _ rfl 28 _ rfl #[.pointer (some ⟨p, 0, none⟩), .int .i64 4096] rfl e28 (C11.out p _ _ (HS.out _ HD.out.bel) HD.out.rd) ?_
                        rintro y WF ⟨v', Ad, cd, rfl, hx, hr, hg⟩
                        refine ⟨_, rfl, ?_⟩
                        have hd := DK.read HD.out hr hg
                        refine hK.out _ _ hd.cel (fun hHeld2 => ?_)
                        clear hK K hHeld
                        have hHeld := hHeld2
                        clear hHeld2
                        try simp only [Act.put, List.setIfInBounds_toArray, List.set_cons_zero, List.set_cons_succ]
                        have EQ := Lib.hid (And.intro (EQ.out.1.to (hg.block gm EQ.out.1.lt (by intro e; injection e with e; have := EQ.out.2; have := HD.out.hgr; omega))) EQ.out.2)
                        have XD := Lib.hid (hx.mono (T' := Tq W0 p gm WF) fun q hq => ⟨Nat.le_trans HD.out.bel.size hq.1, hq.2, by have := hq.1; have := HD.out.rd.lt; omega, by have := hq.1; have := EQ0.out; omega⟩)
                        clear hx
                        have HD := Lib.hid hd
                        clear hd hr hg
                        refine wpAnyH_take (i := 22) (oi := { dst := Option.some 34, op := Op.build 30 #[(0, Operand.tmp 13), (1, Operand.tmp 15), (2, Operand.tmp 17), (3, Operand.tmp 19), (4, Operand.tmp 21), (5, Operand.tmp 23), (6, Operand.tmp 25), (7, Operand.tmp 27), (8, Operand.tmp 29), (9, Operand.tmp 31), (10, Operand.tmp 33)], type := 30, pos := "bytes.go:34", after := #[{ on := 1, ground := Ground.data }, { on := 3, ground := Ground.data }, { on := 5, ground := Ground.data }, { on := 7, ground := Ground.data }, { on := 9, ground := Ground.data }, { on := 11, ground := Ground.data }, { on := 13, ground := Ground.data }, { on := 15, ground := Ground.data }, { on := 17, ground := Ground.data }, { on := 19, ground := Ground.data }, { on := 21, ground := Ground.data }], guard := Option.none }) (v := .agg #[.int .i64 (v1 : Int), .int .i64 (v2 : Int), .int .i64 (v3 : Int), .int .i64 (v4 : Int), .int .i64 (v5 : Int), .int .i64 (v6 : Int), .int .i64 (v7 : Int), .int .i64 (v8 : Int), .bool v9, .int .i64 (v10 : Int), .slice Ad n11 cd, .slice none 0 0]) rfl (by kernel_rfl) (by kernel_rfl) (by kernel_rfl) (fun _ _ _ h => h) (Or.inl ⟨by rfl, ?_⟩) hHeld ?_
                        · intro W hSw
                          go_simp
                        simp only [Act.put, List.setIfInBounds_toArray, List.set_cons_zero, List.set_cons_succ]
                      rotate_left
                      focus
                        refine step_fun rfl _ _ _ rfl 25 _ rfl #[.pointer (some ⟨gr, 0, none⟩)] rfl e25 (C10.out p gr _ _ (HS.out _ HD.out.bel) HD.out.cell HD.out.rd) ?_
                        rintro y u10 ⟨v', rfl, hr, hg⟩
                        refine ⟨_, rfl, ?_⟩
                        have hd := DK.read HD.out hr hg
                        refine hK.out _ _ hd.cel (fun hHeld2 => ?_)
                        clear hK K hHeld
                        have hHeld := hHeld2
                        clear hHeld2
                        try simp only [Act.put, List.setIfInBounds_toArray, List.set_cons_zero, List.set_cons_succ]
                        have HD := Lib.hid hd
                        clear hd hr hg
                        refine wpAnyH_ready (rs := [21, 23]) (by kernel_rfl) (by simp) ?_
                        refine AllReadyH.cons (o := { dst := Option.some 33, op := Op.call { callee := Callee.value (Operand.func 28), args := #[Operand.tmp 32, Operand.const (Value.int IntKind.i64 4096)], argTypes := #[49, 3] }, type := 22, pos := "bytes.go:45", after := #[{ on := 20, ground := Ground.data }, { on := 19, ground := Ground.chain }], guard := Option.none }) rfl (fun K hK => ?_) (AllReadyH.cons (o := { dst := Option.some 6, op := Op.alloc 30, type := 0, pos := "bytes.go:34", after := #[], guard := Option.none }) rfl (fun K hK => ?_) AllReadyH.nil)
                        rotate_left
                        focus
                          refine step_op' rfl ?_
                          go_simp
                          have hq := heap_alloc_new u10 (.cells #[.int .i64 0, .int .i64 0, .int .i64 0, .int .i64 0, .int .i64 0, .int .i64 0, .int .i64 0, .int .i64 0, .bool false, .int .i64 0, .slice none 0 0, .slice none 0 0] 30)
                          have hsb := below_alloc u10 (.cells #[.int .i64 0, .int .i64 0, .int .i64 0, .int .i64 0, .int .i64 0, .int .i64 0, .int .i64 0, .int .i64 0, .bool false, .int .i64 0, .slice none 0 0, .slice none 0 0] 30)
                          have hd := HD.out.more hsb
                          have hgl := HD.out.lt
                          refine hK.out _ _ hd.cel (fun hHeld2 => ?_)
                          clear hK K hHeld
                          have hHeld := hHeld2
                          clear hHeld2
                          try simp only [Act.put, List.setIfInBounds_toArray, List.set_cons_zero, List.set_cons_succ]
                          obtain ⟨u13, hVN⟩ : ∃ W, W = u10.alloc (.cells #[.int .i64 0, .int .i64 0, .int .i64 0, .int .i64 0, .int .i64 0, .int .i64 0, .int .i64 0, .int .i64 0, .bool false, .int .i64 0, .slice none 0 0, .slice none 0 0] 30) := ⟨_, rfl⟩
                          obtain ⟨gm, hgm⟩ : ∃ g, g = u10.heap.size := ⟨_, rfl⟩
                          rw [← hVN] at hq hsb hd hHeld ⊢
                          rw [← hgm] at hq hgl ⊢
                          have EQ := Lib.hid (And.intro (show N12 u13 gm (.int .i64 0) (.int .i64 0) (.int .i64 0) (.int .i64 0) (.int .i64 0) (.int .i64 0) (.int .i64 0) (.int .i64 0) (.bool false) (.int .i64 0) (.slice none 0 0) (.slice none 0 0) from hq) hgl)
                          have EQ0 := Lib.hid (obj_lt hq)
                          have HD := Lib.hid hd
                          clear hq hsb hd hgl hVN hgm
                          refine wpAnyH_ready (rs := [21]) (by kernel_rfl) (by simp) ?_
                          refine AllReadyH.cons (o := { dst := Option.some 33, op := Op.call { callee := Callee.value (Operand.func 28), args := #[Operand.tmp 32, Operand.const (Value.int IntKind.i64 4096)], argTypes := #[49, 3] }, type := 22, pos := "bytes.go:45", after := #[{ on := 20, ground := Ground.data }, { on := 19, ground := Ground.chain }], guard := Option.none }) rfl (fun K hK => ?_) AllReadyH.nil
                          refine step_fun rfl _ _ _ rfl 28 _ rfl #[.pointer (some ⟨p, 0, none⟩), .int .i64 4096] rfl e28 (C11.out p _ _ (HS.out _ HD.out.bel) HD.out.rd) ?_
                          rintro y WF ⟨v', Ad, cd, rfl, hx, hr, hg⟩
                          refine ⟨_, rfl, ?_⟩
                          have hd := DK.read HD.out hr hg
                          refine hK.out _ _ hd.cel (fun hHeld2 => ?_)
                          clear hK K hHeld
                          have hHeld := hHeld2
                          clear hHeld2
                          try simp only [Act.put, List.setIfInBounds_toArray, List.set_cons_zero, List.set_cons_succ]
                          have EQ := Lib.hid (And.intro (EQ.out.1.to (hg.block gm EQ.out.1.lt (by intro e; injection e with e; have := EQ.out.2; have := HD.out.hgr; omega))) EQ.out.2)
                          have XD := Lib.hid (hx.mono (T' := Tq W0 p gm WF) fun q hq => ⟨Nat.le_trans HD.out.bel.size hq.1, hq.2, by have := hq.1; have := HD.out.rd.lt; omega, by have := hq.1; have := EQ0.out; omega⟩)
                          clear hx
                          have HD := Lib.hid hd
                          clear hd hr hg
                          refine wpAnyH_take (i := 22) (oi := { dst := Option.some 34, op := Op.build 30 #[(0, Operand.tmp 13), (1, Operand.tmp 15), (2, Operand.tmp 17), (3, Operand.tmp 19), (4, Operand.tmp 21), (5, Operand.tmp 23), (6, Operand.tmp 25), (7, Operand.tmp 27), (8, Operand.tmp 29), (9, Operand.tmp 31), (10, Operand.tmp 33)], type := 30, pos := "bytes.go:34", after := #[{ on := 1, ground := Ground.data }, { on := 3, ground := Ground.data }, { on := 5, ground := Ground.data }, { on := 7, ground := Ground.data }, { on := 9, ground := Ground.data }, { on := 11, ground := Ground.data }, { on := 13, ground := Ground.data }, { on := 15, ground := Ground.data }, { on := 17, ground := Ground.data }, { on := 19, ground := Ground.data }, { on := 21, ground := Ground.data }], guard := Option.none }) (v := .agg #[.int .i64 (v1 : Int), .int .i64 (v2 : Int), .int .i64 (v3 : Int), .int .i64 (v4 : Int), .int .i64 (v5 : Int), .int .i64 (v6 : Int), .int .i64 (v7 : Int), .int .i64 (v8 : Int), .bool v9, .int .i64 (v10 : Int), .slice Ad n11 cd, .slice none 0 0]) rfl (by kernel_rfl) (by kernel_rfl) (by kernel_rfl) (fun _ _ _ h => h) (Or.inl ⟨by rfl, ?_⟩) hHeld ?_
                          · intro W hSw
                            go_simp
                          simp only [Act.put, List.setIfInBounds_toArray, List.set_cons_zero, List.set_cons_succ]
                        rotate_left
                        focus
                          refine step_fun rfl _ _ _ rfl 28 _ rfl #[.pointer (some ⟨p, 0, none⟩), .int .i64 4096] rfl e28 (C11.out p _ _ (HS.out _ HD.out.bel) HD.out.rd) ?_
                          rintro y u11 ⟨v', Ad, cd, rfl, hx, hr, hg⟩
                          refine ⟨_, rfl, ?_⟩
                          have hd := DK.read HD.out hr hg
                          refine hK.out _ _ hd.cel (fun hHeld2 => ?_)
                          clear hK K hHeld
                          have hHeld := hHeld2
                          clear hHeld2
                          try simp only [Act.put, List.setIfInBounds_toArray, List.set_cons_zero, List.set_cons_succ]
                          have XD := Lib.hid (hx.mono (T' := fun q => W0.heap.size ≤ q ∧ q < u11.heap.size ∧ q ≠ p) fun q hq => ⟨Nat.le_trans HD.out.bel.size hq.1, hq.2, by have := hq.1; have := HD.out.rd.lt; omega⟩)
                          clear hx
                          have HD := Lib.hid hd
                          clear hd hr hg
                          refine wpAnyH_take (i := 22) (oi := { dst := Option.some 34, op := Op.build 30 #[(0, Operand.tmp 13), (1, Operand.tmp 15), (2, Operand.tmp 17), (3, Operand.tmp 19), (4, Operand.tmp 21), (5, Operand.tmp 23), (6, Operand.tmp 25), (7, Operand.tmp 27), (8, Operand.tmp 29), (9, Operand.tmp 31), (10, Operand.tmp 33)], type := 30, pos := "bytes.go:34", after := #[{ on := 1, ground := Ground.data }, { on := 3, ground := Ground.data }, { on := 5, ground := Ground.data }, { on := 7, ground := Ground.data }, { on := 9, ground := Ground.data }, { on := 11, ground := Ground.data }, { on := 13, ground := Ground.data }, { on := 15, ground := Ground.data }, { on := 17, ground := Ground.data }, { on := 19, ground := Ground.data }, { on := 21, ground := Ground.data }], guard := Option.none }) (v := .agg #[.int .i64 (v1 : Int), .int .i64 (v2 : Int), .int .i64 (v3 : Int), .int .i64 (v4 : Int), .int .i64 (v5 : Int), .int .i64 (v6 : Int), .int .i64 (v7 : Int), .int .i64 (v8 : Int), .bool v9, .int .i64 (v10 : Int), .slice Ad n11 cd, .slice none 0 0]) rfl (by kernel_rfl) (by kernel_rfl) (by kernel_rfl) (fun _ _ _ h => h) (Or.inl ⟨by rfl, ?_⟩) hHeld ?_
                          · intro W hSw
                            go_simp
                          simp only [Act.put, List.setIfInBounds_toArray, List.set_cons_zero, List.set_cons_succ]
                          refine wpAnyH_ready (rs := [23]) (by kernel_rfl) (by simp) ?_
                          refine AllReadyH.cons (o := { dst := Option.some 6, op := Op.alloc 30, type := 0, pos := "bytes.go:34", after := #[], guard := Option.none }) rfl (fun K hK => ?_) AllReadyH.nil
                          refine step_op' rfl ?_
                          go_simp
                          have hq := heap_alloc_new u11 (.cells #[.int .i64 0, .int .i64 0, .int .i64 0, .int .i64 0, .int .i64 0, .int .i64 0, .int .i64 0, .int .i64 0, .bool false, .int .i64 0, .slice none 0 0, .slice none 0 0] 30)
                          have hsb := below_alloc u11 (.cells #[.int .i64 0, .int .i64 0, .int .i64 0, .int .i64 0, .int .i64 0, .int .i64 0, .int .i64 0, .int .i64 0, .bool false, .int .i64 0, .slice none 0 0, .slice none 0 0] 30)
                          have hd := HD.out.more hsb
                          have hgl := HD.out.lt
                          refine hK.out _ _ hd.cel (fun hHeld2 => ?_)
                          clear hK K hHeld
                          have hHeld := hHeld2
                          clear hHeld2
                          try simp only [Act.put, List.setIfInBounds_toArray, List.set_cons_zero, List.set_cons_succ]
                          obtain ⟨WF, hVN⟩ : ∃ W, W = u11.alloc (.cells #[.int .i64 0, .int .i64 0, .int .i64 0, .int .i64 0, .int .i64 0, .int .i64 0, .int .i64 0, .int .i64 0, .bool false, .int .i64 0, .slice none 0 0, .slice none 0 0] 30) := ⟨_, rfl⟩
                          obtain ⟨gm, hgm⟩ : ∃ g, g = u11.heap.size := ⟨_, rfl⟩
                          rw [← hVN] at hq hsb hd hHeld ⊢
                          rw [← hgm] at hq hgl ⊢
                          have EQ := Lib.hid (And.intro (show N12 WF gm (.int .i64 0) (.int .i64 0) (.int .i64 0) (.int .i64 0) (.int .i64 0) (.int .i64 0) (.int .i64 0) (.int .i64 0) (.bool false) (.int .i64 0) (.slice none 0 0) (.slice none 0 0) from hq) hgl)
                          have EQ0 := Lib.hid (obj_lt hq)
                          have XD := Lib.hid ((XD.out.kept fun k hk _ => hsb.block k hk.2.1).mono (T' := Tq W0 p gm WF) fun q hq => ⟨hq.1, Nat.lt_of_lt_of_le hq.2.1 hsb.size, hq.2.2, by have := hq.2.1; omega⟩)
                          have HD := Lib.hid hd
                          clear hq hsb hd hgl hVN hgm
    all_goals
      refine wpAnyH_ready (rs := [24]) (by kernel_rfl) (by simp) ?_
      refine AllReadyH.cons (o := { dst := Option.none, op := Op.store 30 (Operand.tmp 6) (Operand.tmp 34), type := 0, pos := "bytes.go:34", after := #[{ on := 23, ground := Ground.data }, { on := 22, ground := Ground.data }, { on := 21, ground := Ground.chain }, { on := 0, ground := Ground.phase }, { on := 1, ground := Ground.phase }, { on := 2, ground := Ground.phase }, { on := 3, ground := Ground.phase }, { on := 4, ground := Ground.phase }, { on := 5, ground := Ground.phase }, { on := 6, ground := Ground.phase }, { on := 7, ground := Ground.phase }, { on := 8, ground := Ground.phase }, { on := 9, ground := Ground.phase }, { on := 10, ground := Ground.phase }, { on := 11, ground := Ground.phase }, { on := 12, ground := Ground.phase }, { on := 13, ground := Ground.phase }, { on := 14, ground := Ground.phase }, { on := 15, ground := Ground.phase }, { on := 16, ground := Ground.phase }, { on := 17, ground := Ground.phase }, { on := 18, ground := Ground.phase }, { on := 19, ground := Ground.phase }, { on := 20, ground := Ground.phase }, { on := 21, ground := Ground.phase }, { on := 22, ground := Ground.phase }, { on := 23, ground := Ground.phase }], guard := Option.none }) rfl (fun K hK => ?_) AllReadyH.nil
      refine step_put12 rfl _ _ rfl gm rfl rfl EQ.out.1 ?_
      intro F hE hbQ hoth hsF
      have hd := HD.out.low (hbQ gm (Nat.le_refl _)) EQ.out.2
      refine hK.out _ _ hd.cel (fun hHeld2 => ?_)
      clear hK K hHeld hHeld2
      have HR := Lib.hid (And.intro hd (And.intro hE ((XD.out.kept fun k hk _ => hoth k hk.2.2.2).mono (T' := Tq W0 p gm F) fun q hq => ⟨hq.1, by rw [hsF]; exact hq.2.1, hq.2.2⟩)))
      clear hd hE hbQ hoth hsF
      refine wpAnyH_done (by kernel_rfl) ?_ _
      go_wp2_with fail
      go_meet
      exact ⟨gm, Ad, cd, _, F, rfl, rfl, EQ.out.2, HR.out.1, HR.out.2.1, HR.out.2.2⟩
  case rest =>
    obtain ⟨gm, Ad, cd, v', V, rfl, rfl, hgm, hdk, hm, hx⟩ := hcut
    have hc := hdk.cell
    have HG := Lib.hid hgm
    have HM := Lib.hid (And.intro hdk (And.intro hm hx))
    clear hdk hm hx hgm C1 C2 C3 C4 C5 C6 C7 C8 C9 C10 C11 e25 e27 e28 HD
    go_wp2_with (go_at_call 29; go_must (refine (C12.out p _ _ (HS.out _ HM.out.1.bel) HM.out.1.rd).mono ?_; rintro y w3 ⟨vr3, rfl, hr, hg⟩; have H3 := Lib.hid (And.intro (HM.out.1.read hr hg) (And.intro (HM.out.2.1.to (hg.block gm HM.out.2.1.lt (by intro e; injection e with e; have h1 := HM.out.1.hgr; have h2 := HG.out; omega))) (show SlT w3 (Tc W0 w3.heap.size p gm) (.slice Ad n11 cd) v11 from (HM.out.2.2.kept fun q hq hq2 => hg.block q hq2 (by intro e; injection e with e; exact hq.2.2.1 e)).mono fun q hq => ⟨hq.1, Nat.lt_of_lt_of_le hq.2.1 hg.size, hq.2.2⟩))); clear hr hg))
    obtain ⟨CB, hCB⟩ : ∃ C, C = w3.heap.size := ⟨_, rfl⟩
    have HCB := Lib.hid (And.intro hCB (show gm < CB by rw [hCB]; exact H3.out.2.1.lt))
    clear hCB hc
    go_loopw [37] (fun ii wr => ∃ (j : Nat) (es : List En) (s : List UInt8) (k : Nat) (v' : Value) (va : Value), ii = .int .i64 (j : Int) ∧ es.length = j ∧ Hid ((DK W0 p gr wr v' s k ∧ N12 wr gm (.int .i64 (v1 : Int)) (.int .i64 (v2 : Int)) (.int .i64 (v3 : Int)) (.int .i64 (v4 : Int)) (.int .i64 (v5 : Int)) (.int .i64 (v6 : Int)) (.int .i64 (v7 : Int)) (.int .i64 (v8 : Int)) (.bool v9) (.int .i64 (v10 : Int)) (.slice Ad n11 cd) va ∧ SlT wr (Tc W0 CB p gm) (.slice Ad n11 cd) v11 ∧ OwnE wr CB (fun q => CB ≤ q) 57 va es) ∧ CB ≤ wr.heap.size ∧ LD cnt j s k true es sF kF okF esF ∧ (∀ e ∈ es, e.data.length ≤ 4096) ∧ s.length ≤ 140737488355328)) (fun ii _ => cnt - (intOf ii).toNat)
    case atStart => exact ⟨0, [], s12, k12, vr3, .slice none 0 0, rfl, rfl, Lib.hid ⟨⟨H3.out.1, H3.out.2.1, by rw [HCB.out.1]; exact H3.out.2.2, OwnE.nil_ _ _ _ _⟩, Nat.le_of_eq HCB.out.1, HLD.out, (fun e he => by cases he), HN.out.2.1⟩⟩
    case round =>
      obtain ⟨j, es, s, k, v', va, rfl, hes, HR⟩ := hrel
      obtain ⟨Av, cv, rfl, -, -⟩ := HR.out.1.2.2.2.form hes
      have hc := HR.out.1.1.cell
      by_cases hlt : j < cnt
      · have i1 : (j : Int) < (cnt : Int) := by omega
        rcases hrb : rBytes 98 4200 (s, k) with ⟨⟨t1, q1⟩, x⟩
        rcases hde : decE x with ⟨e, f⟩
        have hsh := rBytes_short hrb HR.out.2.2.2.2
        obtain ⟨mx, hmx⟩ : ∃ mx, mx = x.length := ⟨_, rfl⟩
        obtain ⟨me, hme⟩ : ∃ me, me = e.data.length := ⟨_, rfl⟩
        have CR := Lib.hid (Bytes_s p 4200 (by omega) s k HR.out.2.2.2.2 t1 q1 x hrb mx hmx v' wr (HS.out _ HR.out.1.1.bel) HR.out.1.1.rd)
        have CD := Lib.hid fun A c W hs h => EDec_any A mx c x W hs h (by rw [hmx]; exact hsh.2) e f hde me hme
        have hfk := decE_kind x
        rw [hde] at hfk
        have HX := Lib.hid (And.intro hsh.1 (And.intro hme (And.intro hes hlt)))
        have HP := Lib.hid (And.intro hrb hde)
        clear hrb hde hsh hmx hme hes hlt
        rcases (show f = 3 ∨ f = 0 from by rcases hfk with h1 | h1; exact Or.inr h1; exact Or.inl h1) with rfl | rfl
        · have hmk : (m, kk) = (zm, 3) := by
            rw [HN.out.2.2.2.1, ld_bad HR.out.2.2.1 HX.out.2.2.2 HP.out.1 HP.out.2 (by decide), Bool.false_and, if_neg (by simp)]
          obtain ⟨rfl, rfl⟩ := Prod.mk.inj hmk
          rw [er_ne (by decide)] at CD
          clear hmk hfk
          go_upto_region 7 with (first
            | (go_at_call 28; go_must (refine CR.out.mono ?_; rintro y w5 ⟨vr5, Ax, cx, rfl, hX, hr, hg⟩; have H5 := Lib.hid (And.intro (ls_read HR.out.1.1 HG.out HCB.out.2 HR.out.1.2.1 HR.out.1.2.2.1 HR.out.1.2.2.2 hr hg) (show Bys w5 (.slice Ax mx cx) x from hX.mono fun q hq => hq.2)); clear hr hg hX))
            | (go_at_call 30; go_must (refine (CD.out Ax cx w5 (HS.out _ H5.out.1.1.bel) H5.out.2).mono ?_; rintro y w6 ⟨A6, c6, rfl, -, hb⟩; have hb7 := hb.alloc hb.size (.cells #[.int .i64 e.index, .int .i64 e.term, .int .i64 e.kind, .slice A6 me c6] 57); have H7 := Lib.hid (H5.out.1.1.more hb7).bel; clear hb hb7)))
          have TZ : N12 _ g0 (.int .i64 0) (.int .i64 0) (.int .i64 0) (.int .i64 0) (.int .i64 0) (.int .i64 0) (.int .i64 0) (.int .i64 0) (.bool false) (.int .i64 0) (.slice none 0 0) (.slice none 0 0) := HE.out.2.1.to (H7.out.block g0 HE.out.2.1.lt)
          obtain ⟨z0, z1, z2, z3, z4, z5, z6, z7, z8, z9, z10, z11⟩ := cells12 TZ
          have f0 := frozen_own TZ 0; have f1 := frozen_own TZ 1; have f2 := frozen_own TZ 2; have f3 := frozen_own TZ 3; have f4 := frozen_own TZ 4; have f5 := frozen_own TZ 5; have f6 := frozen_own TZ 6; have f7 := frozen_own TZ 7; have f8 := frozen_own TZ 8; have f9 := frozen_own TZ 9; have f10 := frozen_own TZ 10; have f11 := frozen_own TZ 11
          go_wp2_with fail
          obtain ⟨F, hF, hE, hbQ, hoth, hsF⟩ := put12 TZ (.int .i64 0) (.int .i64 0) (.int .i64 0) (.int .i64 0) (.int .i64 0) (.int .i64 0) (.int .i64 0) (.int .i64 0) (.bool false) (.int .i64 0) (.slice none 0 0) (.slice none 0 0)
          rw [← hF]
          clear hF z0 z1 z2 z3 z4 z5 z6 z7 z8 z9 z10 z11
          obtain ⟨z0, z1, z2, z3, z4, z5, z6, z7, z8, z9, z10, z11⟩ := cells12 hE
          have hgw := HW.out.2
          have hnd : nd = 0 := HN.out.2.2.2.2.1
          have hne : ne = 0 := HN.out.2.2.2.2.2
          subst hnd
          subst hne
          exact bodyPost_ret (v := .tuple #[.agg #[.int .i64 0, .int .i64 0, .int .i64 0, .int .i64 0, .int .i64 0, .int .i64 0, .int .i64 0, .int .i64 0, .bool false, .int .i64 0, .slice none 0 0, .slice none 0 0], .iface 60 (.int .i64 3)]) (by simp [results, Tryz.results11, go_sem, z0, z1, z2, z3, z4, z5, z6, z7, z8, z9, z10, z11]) rfl ⟨none, 0, none, 0, rfl, ⟨SlT.nil_ _ _, ⟨[], RowT.nil_ _ _ _, fun j h => by simp [zm] at h⟩, fun e he => by simp [zm] at he, by unfold zm inI; decide⟩, (HE.out.1.trans (H7.out.mono HE.out.1.size)).trans (hbQ _ (by omega))⟩
        · have hk0 : k = 0 := by
            by_cases hk : k = 0
            · exact hk
            · exfalso
              have h1 := rBytes_stop HP.out.1 hk
              have h2 := HP.out.2
              rw [h1] at h2
              have h3 := decE_nil_
              rw [h2] at h3
              cases h3
          subst hk0
          have hL := ld_next HR.out.2.2.1 HX.out.2.2.2 HP.out.1 HP.out.2
          rw [decide_eq_true (rfl : (0 : Nat) = 0), Bool.and_true] at hL
          have hfit : e.data.length ≤ 4096 := by
            have h1 := (decE_inv (b := x) (by rw [HP.out.2])).2
            rw [HP.out.2] at h1
            exact (fitM_iff.1 h1).2.2.2.2.2.2
          have HL := Lib.hid (And.intro hL hfit)
          rw [er_zero] at CD
          clear hL hfit hfk
          go_upto_region 7 with (first
            | (go_at_call 28; go_must (refine CR.out.mono ?_; rintro y w5 ⟨vr5, Ax, cx, rfl, hX, hr, hg⟩; have H5 := Lib.hid (And.intro (ls_read HR.out.1.1 HG.out HCB.out.2 HR.out.1.2.1 HR.out.1.2.2.1 HR.out.1.2.2.2 hr hg) (And.intro (show Bys w5 (.slice Ax mx cx) x from hX.mono fun q hq => hq.2) (Nat.le_trans HR.out.2.1 hg.size))); have HSZ := Lib.hid hg.size; clear hr hg hX))
            | (go_at_call 30; go_must (refine (CD.out Ax cx w5 (HS.out _ H5.out.1.1.bel) H5.out.2.1).mono ?_; rintro y w6 ⟨A6, c6, rfl, hdat, hb⟩; have H6 := Lib.hid (And.intro hdat hb); clear hb hdat)))
          obtain ⟨V2, q2, hV2, hq2, hb2, hE2, hsz2⟩ := one_box w6 (.cells #[.int .i64 e.index, .int .i64 e.term, .int .i64 e.kind, .slice A6 me c6] 57)
          rw [← hV2, ← hq2]
          have hb7 : Below w5.heap.size w5 V2 := H6.out.2.trans (hb2.mono H6.out.2.size)
          have H7 := Lib.hid (And.intro (ls_more H5.out.1.1 H5.out.1.2.1 H5.out.1.2.2.1 H5.out.1.2.2.2 hb7) (And.intro (show SlT V2 (fun q => w5.heap.size ≤ q ∧ q < V2.heap.size) (.slice A6 me c6) e.data from (H6.out.1.kept fun q hq _ => hb2.block q hq.2).mono fun q hq => ⟨hq.1, Nat.lt_of_lt_of_le hq.2 hb2.size⟩) (show CB ≤ V2.heap.size from Nat.le_trans H5.out.2.2 hb7.size)))
          obtain ⟨e0, e1, e2, e3⟩ := cells4 hE2
          obtain ⟨y0, y1, y2, y3, y4, y5, y6, y7, y8, y9, y10, y11⟩ := cells12 H7.out.1.2.1
          clear y0 y1 y2 y3 y4 y5 y6 y7 y8 y9 y10 hV2 hq2 hb2 hE2 hsz2 hb7 hc
          go_upto_region 9 with fail
          go_upto_region 10 with (at_builtin; go_must (refine wpList_pushE (B := CB) (Q := fun q => CB ≤ q) (t := 57) (l := es) (H7.out.1.2.2.2.more (below_alloc V2 _)) rfl _ _ 28 Tryz.underlying28 info_ent rfl rfl V2.heap.size e A6 c6 rfl ?c0 ?c1 ?c2 ?c3 ?c4))
          case c0 => rw [← HX.out.2.1]; exact heap_alloc_new V2 _
          case c1 =>
            rw [← HX.out.2.1]
            refine (H7.out.2.1.kept fun k hk _ => heap_alloc_old _ _ hk.2).mono fun k hk => ⟨Nat.le_trans H5.out.2.2 hk.1, by rw [World.size_alloc]; have := hk.2; omega, fun e' => ?_⟩
            have h1 := (HR.out.1.2.2.2.lt k e').2
            have h2 := HSZ.out
            have h3 := hk.1
            omega
          case c2 => have h1 := HX.out.2.2.1; have h2 := HX.out.2.2.2; have h3 := HN.out.2.2.1; omega
          case c3 => have h1 := H7.out.2.2; rw [World.size_alloc]; omega
          case c4 =>
            intro v2' w' ho' hg' _
            obtain ⟨Av2, cv2, rfl, -, -⟩ := ho'.form (j := j + 1) (by rw [List.length_append, HX.out.2.2.1]; rfl)
            have hb5 : Below CB V2 w' := ((below_alloc V2 (Obj.cells #[.int .i64 e.index, .int .i64 e.term, .int .i64 e.kind, .slice A6 me c6] 57)).mono H7.out.2.2).trans ((Below.refl CB _).grown hg' (by rw [World.size_alloc]; have := H7.out.2.2; omega) fun k hk => (H7.out.1.2.2.2.lt k hk).1)
            have hgl := HG.out
            have hcl := HCB.out.2
            have TN := H7.out.1.2.1.to (hb5.block gm hcl)
            obtain ⟨y0, y1, y2, y3, y4, y5, y6, y7, y8, y9, y10, y11⟩ := cells12 TN
            have f11 := frozen_own TN 11
            have HF := Lib.hid (And.intro (show DK W0 p gr (w'.setCell ⟨gm, 11, none⟩ (.slice Av2 (j + 1) cv2)) vr5 t1 q1 from (H7.out.1.1.low hb5 (by omega)).low (C := gr + 1) ((Below.refl (gr + 1) w').setCell (p := ⟨gm, 11, none⟩) (by simp only; omega) (.slice Av2 (j + 1) cv2)) (by omega))
              (And.intro (TN.set11 (.slice Av2 (j + 1) cv2))
              (And.intro (show SlT (w'.setCell ⟨gm, 11, none⟩ (.slice Av2 (j + 1) cv2)) (Tc W0 CB p gm) (.slice Ad n11 cd) v11 from H7.out.1.2.2.1.kept fun q hq hq2 => (Below.heap_setCell _ _ _ _ (by simp only; exact hq.2.2.2)).trans (hb5.block q hq.2.1))
              (show OwnE (w'.setCell ⟨gm, 11, none⟩ (.slice Av2 (j + 1) cv2)) CB (fun q => CB ≤ q) 57 (.slice Av2 (j + 1) cv2) (es ++ [e]) from ho'.kept (fun q hq ho => Below.heap_setCell _ _ _ _ (by rcases ho with h3 | h3; (have h4 : CB ≤ q := h3; simp only; omega); (have h4 := (ho'.lt q h3).1; simp only; omega))) (by simp)))))
            have HF2 := Lib.hid (show CB ≤ (w'.setCell ⟨gm, 11, none⟩ (.slice Av2 (j + 1) cv2)).heap.size by rw [World.size_setCell]; exact Nat.le_trans H7.out.2.2 hb5.size)
            clear TN ho' hg' hb5 hgl hcl y0 y1 y2 y3 y4 y5 y6 y7 y8 y9 y10
            have hjj := HX.out.2.2.2
            have hcc := HN.out.2.2.1
            go_upto_region 10 with fail
            go_wp2_with fail
            go_roundw
            case rel => exact ⟨j + 1, es ++ [e], t1, q1, vr5, _, by go_num, by rw [List.length_append, HX.out.2.2.1]; rfl, Lib.hid ⟨HF.out, HF2.out, HL.out.1, (fun y hy => by rcases List.mem_append.mp hy with h1 | h1; exact HR.out.2.2.2.1 y h1; rw [List.mem_singleton.mp h1]; exact HL.out.2), HX.out.1⟩⟩
            case measure => have := HX.out.2.2.2; simp [intOf]; omega
      · have hjc : j = cnt := by have := HR.out.2.2.1.le; omega
        obtain ⟨rfl, rfl, rfl, rfl⟩ := ld_end HR.out.2.2.1 (Or.inl hjc)
        have i1 : ¬ ((j : Int) < (cnt : Int)) := by omega
        have hin : InM ⟨(v1 : Int), (v2 : Int), (v3 : Int), (v4 : Int), (v5 : Int), (v6 : Int), (v7 : Int), (v8 : Int), v9, (v10 : Int), v11, es⟩ Ad n11 cd Av j cv wr := ⟨HR.out.1.2.2.1.mono fun q hq => Nat.lt_of_lt_of_le hq.2.1 HR.out.2.1, ⟨HR.out.1.2.2.2.ents, HR.out.2.2.1.fit⟩, HI0.out⟩
        obtain ⟨d, hd⟩ : ∃ d, d = doneR (s, k) := ⟨_, rfl⟩
        obtain ⟨bm, hbm⟩ : ∃ bm, bm = mayM ⟨(v1 : Int), (v2 : Int), (v3 : Int), (v4 : Int), (v5 : Int), (v6 : Int), (v7 : Int), (v8 : Int), v9, (v10 : Int), v11, es⟩ := ⟨_, rfl⟩
        have hfin := HN.out.2.2.2.1
        rw [← hd, ← hbm] at hfin
        have HDD := Lib.hid (Done_s p s k d hd v' wr HR.out.1.1.rd)
        have HCK := Lib.hid fun kc hkc => Check_any ⟨(v1 : Int), (v2 : Int), (v3 : Int), (v4 : Int), (v5 : Int), (v6 : Int), (v7 : Int), (v8 : Int), v9, (v10 : Int), v11, es⟩ Ad n11 cd Av j cv wr (HS.out _ HR.out.1.1.bel) hin ⟨by have h1 := hes; have h2 := HN.out.2.2.1; simp only; omega, fun e he => by have := HR.out.2.2.2.1 e he; omega⟩ kc hkc
        rw [← hbm] at HCK
        have three : (d ≠ 0 ∧ m = zm ∧ kk = 3) ∨ (d = 0 ∧ bm = false ∧ m = zm ∧ kk = 3) ∨ (d = 0 ∧ bm = true ∧ m = ⟨(v1 : Int), (v2 : Int), (v3 : Int), (v4 : Int), (v5 : Int), (v6 : Int), (v7 : Int), (v8 : Int), v9, (v10 : Int), v11, es⟩ ∧ kk = 0) := by
          clear hbm hin HCK HDD hd
          by_cases h0 : d = 0
          · cases bm with
            | false => rw [if_neg (by simp)] at hfin; injection hfin with p1 p2; exact Or.inr (Or.inl ⟨h0, rfl, p1, p2⟩)
            | true => rw [if_pos (by simp [h0])] at hfin; injection hfin with p1 p2; exact Or.inr (Or.inr ⟨h0, rfl, p1, p2⟩)
          · rw [if_neg (by simp [h0])] at hfin; injection hfin with p1 p2; exact Or.inl ⟨h0, p1, p2⟩
        obtain ⟨y0, y1, y2, y3, y4, y5, y6, y7, y8, y9, y10, y11⟩ := cells12 HR.out.1.2.1
        have HI := Lib.hid hin
        have HJ := Lib.hid (And.intro hes hjc)
        clear hbm hd hfin hin hes hjc
        rcases three with ⟨h0, rfl, rfl⟩ | ⟨rfl, rfl, rfl, rfl⟩ | ⟨rfl, rfl, rfl, rfl⟩
        · rw [show ev d = .iface 60 (.int .i64 (d : Int)) from ev_ne h0] at HDD
          have TZ : N12 wr g0 (.int .i64 0) (.int .i64 0) (.int .i64 0) (.int .i64 0) (.int .i64 0) (.int .i64 0) (.int .i64 0) (.int .i64 0) (.bool false) (.int .i64 0) (.slice none 0 0) (.slice none 0 0) := HE.out.2.1.to (HR.out.1.1.bel.block g0 HE.out.2.1.lt)
          obtain ⟨z0, z1, z2, z3, z4, z5, z6, z7, z8, z9, z10, z11⟩ := cells12 TZ
          have f0 := frozen_own TZ 0; have f1 := frozen_own TZ 1; have f2 := frozen_own TZ 2; have f3 := frozen_own TZ 3; have f4 := frozen_own TZ 4; have f5 := frozen_own TZ 5; have f6 := frozen_own TZ 6; have f7 := frozen_own TZ 7; have f8 := frozen_own TZ 8; have f9 := frozen_own TZ 9; have f10 := frozen_own TZ 10; have f11 := frozen_own TZ 11
          go_wp2_with (go_at_call 31; go_must (refine HDD.out.mono ?_; rintro y w8 ⟨rfl, rfl⟩))
          obtain ⟨F, hF, hE, hbQ, hoth, hsF⟩ := put12 TZ (.int .i64 0) (.int .i64 0) (.int .i64 0) (.int .i64 0) (.int .i64 0) (.int .i64 0) (.int .i64 0) (.int .i64 0) (.bool false) (.int .i64 0) (.slice none 0 0) (.slice none 0 0)
          rw [← hF]
          clear hF z0 z1 z2 z3 z4 z5 z6 z7 z8 z9 z10 z11
          obtain ⟨z0, z1, z2, z3, z4, z5, z6, z7, z8, z9, z10, z11⟩ := cells12 hE
          have hgw := HW.out.2
          have hnd : nd = 0 := HN.out.2.2.2.2.1
          have hne : ne = 0 := HN.out.2.2.2.2.2
          subst hnd
          subst hne
          exact bodyPost_ret (v := .tuple #[.agg #[.int .i64 0, .int .i64 0, .int .i64 0, .int .i64 0, .int .i64 0, .int .i64 0, .int .i64 0, .int .i64 0, .bool false, .int .i64 0, .slice none 0 0, .slice none 0 0], .iface 60 (.int .i64 3)]) (by simp [results, Tryz.results11, go_sem, z0, z1, z2, z3, z4, z5, z6, z7, z8, z9, z10, z11]) rfl ⟨none, 0, none, 0, rfl, ⟨SlT.nil_ _ _, ⟨[], RowT.nil_ _ _ _, fun j h => by simp [zm] at h⟩, fun e he => by simp [zm] at he, by unfold zm inI; decide⟩, (HE.out.1.trans (HR.out.1.1.bel.mono HE.out.1.size)).trans (hbQ _ (by omega))⟩
        · rw [show ev 0 = .nilIface from rfl] at HDD
          have HC1 := Lib.hid (HCK.out 1 (by simp))
          rw [er_ne (by decide)] at HC1
          clear HCK
          go_wp2_with (first
            | (go_at_call 31; go_must (refine HDD.out.mono ?_; rintro y w8 ⟨rfl, rfl⟩))
            | (go_at_call 13; go_must (refine HC1.out.mono ?_; rintro y w9 ⟨rfl, hb⟩; have TZ : N12 w9 g0 (.int .i64 0) (.int .i64 0) (.int .i64 0) (.int .i64 0) (.int .i64 0) (.int .i64 0) (.int .i64 0) (.int .i64 0) (.bool false) (.int .i64 0) (.slice none 0 0) (.slice none 0 0) := (HE.out.2.1.to (HR.out.1.1.bel.block g0 HE.out.2.1.lt)).to (hb.block g0 (Nat.lt_of_lt_of_le HE.out.2.1.lt HR.out.1.1.bel.size)); obtain ⟨z0, z1, z2, z3, z4, z5, z6, z7, z8, z9, z10, z11⟩ := cells12 TZ; have f0 := frozen_own TZ 0; have f1 := frozen_own TZ 1; have f2 := frozen_own TZ 2; have f3 := frozen_own TZ 3; have f4 := frozen_own TZ 4; have f5 := frozen_own TZ 5; have f6 := frozen_own TZ 6; have f7 := frozen_own TZ 7; have f8 := frozen_own TZ 8; have f9 := frozen_own TZ 9; have f10 := frozen_own TZ 10; have f11 := frozen_own TZ 11; have H9 := Lib.hid (And.intro TZ (HR.out.1.1.bel.trans (hb.mono HR.out.1.1.bel.size))); clear hb TZ)))
          obtain ⟨F, hF, hE, hbQ, hoth, hsF⟩ := put12 H9.out.1 (.int .i64 0) (.int .i64 0) (.int .i64 0) (.int .i64 0) (.int .i64 0) (.int .i64 0) (.int .i64 0) (.int .i64 0) (.bool false) (.int .i64 0) (.slice none 0 0) (.slice none 0 0)
          rw [← hF]
          clear hF z0 z1 z2 z3 z4 z5 z6 z7 z8 z9 z10 z11
          obtain ⟨z0, z1, z2, z3, z4, z5, z6, z7, z8, z9, z10, z11⟩ := cells12 hE
          have hgw := HW.out.2
          have hnd : nd = 0 := HN.out.2.2.2.2.1
          have hne : ne = 0 := HN.out.2.2.2.2.2
          subst hnd
          subst hne
          exact bodyPost_ret (v := .tuple #[.agg #[.int .i64 0, .int .i64 0, .int .i64 0, .int .i64 0, .int .i64 0, .int .i64 0, .int .i64 0, .int .i64 0, .bool false, .int .i64 0, .slice none 0 0, .slice none 0 0], .iface 60 (.int .i64 3)]) (by simp [results, Tryz.results11, go_sem, z0, z1, z2, z3, z4, z5, z6, z7, z8, z9, z10, z11]) rfl ⟨none, 0, none, 0, rfl, ⟨SlT.nil_ _ _, ⟨[], RowT.nil_ _ _ _, fun j h => by simp [zm] at h⟩, fun e he => by simp [zm] at he, by unfold zm inI; decide⟩, (HE.out.1.trans (H9.out.2.mono HE.out.1.size)).trans (hbQ _ (by omega))⟩
        · rw [show ev 0 = .nilIface from rfl] at HDD
          have HC1 := Lib.hid (HCK.out 0 (by simp))
          rw [er_zero] at HC1
          clear HCK
          go_wp2_with (first
            | (go_at_call 31; go_must (refine HDD.out.mono ?_; rintro y w8 ⟨rfl, rfl⟩))
            | (go_at_call 13; go_must (refine HC1.out.mono ?_; rintro y w9 ⟨rfl, hb⟩; have TZ : N12 w9 g0 (.int .i64 0) (.int .i64 0) (.int .i64 0) (.int .i64 0) (.int .i64 0) (.int .i64 0) (.int .i64 0) (.int .i64 0) (.bool false) (.int .i64 0) (.slice none 0 0) (.slice none 0 0) := (HE.out.2.1.to (HR.out.1.1.bel.block g0 HE.out.2.1.lt)).to (hb.block g0 (Nat.lt_of_lt_of_le HE.out.2.1.lt HR.out.1.1.bel.size)); have TY := HR.out.1.2.1.to (hb.block gm HR.out.1.2.1.lt); clear y0 y1 y2 y3 y4 y5 y6 y7 y8 y9 y10 y11; obtain ⟨y0, y1, y2, y3, y4, y5, y6, y7, y8, y9, y10, y11⟩ := cells12 TY; obtain ⟨z0, z1, z2, z3, z4, z5, z6, z7, z8, z9, z10, z11⟩ := cells12 TZ; have f0 := frozen_own TZ 0; have f1 := frozen_own TZ 1; have f2 := frozen_own TZ 2; have f3 := frozen_own TZ 3; have f4 := frozen_own TZ 4; have f5 := frozen_own TZ 5; have f6 := frozen_own TZ 6; have f7 := frozen_own TZ 7; have f8 := frozen_own TZ 8; have f9 := frozen_own TZ 9; have f10 := frozen_own TZ 10; have f11 := frozen_own TZ 11; have H9 := Lib.hid (And.intro TZ (And.intro (HR.out.1.1.bel.trans (hb.mono HR.out.1.1.bel.size)) hb)); clear hb TZ TY)))
          obtain ⟨F, hF, hE, hbQ, hoth, hsF⟩ := put12 H9.out.1 (.int .i64 (v1 : Int)) (.int .i64 (v2 : Int)) (.int .i64 (v3 : Int)) (.int .i64 (v4 : Int)) (.int .i64 (v5 : Int)) (.int .i64 (v6 : Int)) (.int .i64 (v7 : Int)) (.int .i64 (v8 : Int)) (.bool v9) (.int .i64 (v10 : Int)) (.slice Ad n11 cd) (.slice Av j cv)
          rw [← hF]
          clear hF z0 z1 z2 z3 z4 z5 z6 z7 z8 z9 z10 z11
          obtain ⟨z0, z1, z2, z3, z4, z5, z6, z7, z8, z9, z10, z11⟩ := cells12 hE
          have hgw := HW.out.2
          have hgs := HE.out.2.2
          have hnd : n11 = nd := HN.out.1.trans HN.out.2.2.2.2.1.symm
          have hne : j = ne := HJ.out.1.symm.trans HN.out.2.2.2.2.2.symm
          subst hnd
          subst hne
          have hkeep : ∀ q, W0.heap.size ≤ q → q < wr.heap.size → F.heap[q]? = wr.heap[q]? := fun q h1 h2 => (hoth q (by omega)).trans (H9.out.2.2.block q h2)
          have hsz : wr.heap.size ≤ F.heap.size := by rw [hsF]; exact H9.out.2.2.size
          have hcb := HCB.out.1
          have h3s := H3.out.1.bel.size
          have hin : InT ⟨(v1 : Int), (v2 : Int), (v3 : Int), (v4 : Int), (v5 : Int), (v6 : Int), (v7 : Int), (v8 : Int), v9, (v10 : Int), v11, es⟩ Ad n11 cd Av j cv (fun q => w.heap.size ≤ q ∧ q < F.heap.size) F := ⟨(HR.out.1.2.2.1.kept fun q hq hq2 => hkeep q hq.1 hq2).mono fun q hq => ⟨Nat.le_trans HE.out.1.size hq.1, Nat.lt_of_lt_of_le hq.2.1 (Nat.le_trans HR.out.2.1 hsz)⟩,
            (HR.out.1.2.2.2.kept (w' := F) (fun q hq ho => hkeep q (by rcases ho with h3 | h3; (have h4 : CB ≤ q := h3; omega); (have h4 := (HR.out.1.2.2.2.lt q h3).1; omega)) hq) hsz).entsT _ (fun q hq hq2 => ⟨by have h4 : CB ≤ q := hq; have := HE.out.1.size; omega, hq2⟩) (fun q hq hq2 => ⟨by have := HE.out.1.size; omega, hq2⟩), HR.out.2.2.1.fit, HI0.out⟩
          exact bodyPost_ret (v := .tuple #[.agg #[.int .i64 (v1 : Int), .int .i64 (v2 : Int), .int .i64 (v3 : Int), .int .i64 (v4 : Int), .int .i64 (v5 : Int), .int .i64 (v6 : Int), .int .i64 (v7 : Int), .int .i64 (v8 : Int), .bool v9, .int .i64 (v10 : Int), .slice Ad n11 cd, .slice Av j cv], .nilIface]) (by simp [results, Tryz.results11, go_sem, z0, z1, z2, z3, z4, z5, z6, z7, z8, z9, z10, z11]) rfl ⟨Ad, cd, Av, cv, rfl, hin, (HE.out.1.trans (H9.out.2.1.mono HE.out.1.size)).trans (hbQ _ (by omega))⟩


end Go.Proofs.YtfblgkcipnkhaaaGreatDoor.pk
