import Derived.Test.YtncaefocijainaaGreatDoorG31
import Derived.Test.YtncaefocijainaaGreatDoorG44
import Derived.Test.YtncaefocijainaaGreatDoorG42
import Derived.BigRegion
namespace Go.Proofs.YtncaefocijainaaGreatDoor.pk
open Go Go.RowKit
set_option maxRecDepth 100000
section
structure Md (Bd g : Nat) (w W : World) (A : Option Addr) (n c k : Nat) (s : List UInt8) (ns ms : Array Value) : Prop where
 bel : Below g w W
 z : W.heap[g]? = some (.cells #[.int .i64 0, .int .i64 0, .int .i64 0, .int .i64 0, .slice none 0 0, .slice none 0 0, .slice none 0 0] 50 (0, 0))
 r : RB W (g + 1) (.slice A n c) (.int .i64 (k : Int))
 m : W.heap[g + 2]? = some (.cells ms 50 (0, 0))
 a : W.heap[g + 3]? = some (.cells ns 122 (0, 0))
 sl : Sl W Bd (.slice A n c) s
 hB : Bd ≤ g
section
variable {Bd g : Nat} {w W W' : World} {A A' : Option Addr} {n c k n' c' k' : Nat} {s s' : List UInt8} {ns ns' ms ms' : Array Value}
theorem Md.lt (h : Md Bd g w W A n c k s ns ms) : g + 3 < W.heap.size := obj_lt h.a
theorem Md.le (h : Md Bd g w W A n c k s ns ms) : Bd ≤ W.heap.size := by have := h.lt; have := h.hB; omega
theorem Md.beneath {Q : Nat} (h : Md Bd g w W A n c k s ns ms) (hb : Below Q W W') (hQ : g + 3 < Q) : Md Bd g w W' A n c k s ns ms :=
 ⟨h.bel.trans (hb.mono (by omega)), (hb.block g (by omega)).trans h.z, (hb.block (g + 1) (by omega)).trans h.r, (hb.block (g + 2) (by omega)).trans h.m, (hb.block (g + 3) (by omega)).trans h.a, h.sl.below (hb.mono (by have := h.hB; omega)), h.hB⟩
theorem Md.call (h : Md Bd g w W A n c k s ns ms) (hb : Below W.heap.size W W') : Md Bd g w W' A n c k s ns ms := h.beneath hb h.lt
theorem Md.rd (h : Md Bd g w W A n c k s ns ms) (hs : Sl W Bd (.slice A' n' c') s') : Md Bd g w ((W.setCell ⟨g + 1, 0, none⟩ (.slice A' n' c')).setCell ⟨g + 1, 1, none⟩ (.int .i64 (k' : Int))) A' n' c' k' s' ns ms := by
 have hb : Below g W ((W.setCell ⟨g + 1, 0, none⟩ (.slice A' n' c')).setCell ⟨g + 1, 1, none⟩ (.int .i64 (k' : Int))) := ((Below.refl g W).setCell (p := ⟨g + 1, 0, none⟩) (by simp only; omega) _).setCell (p := ⟨g + 1, 1, none⟩) (by simp only; omega) _
 have ho : ∀ q, q ≠ g + 1 → ((W.setCell ⟨g + 1, 0, none⟩ (.slice A' n' c')).setCell ⟨g + 1, 1, none⟩ (.int .i64 (k' : Int))).heap[q]? = W.heap[q]? := fun q hq => by rw [setc_oth _ hq, setc_oth _ hq]
 have hr := h.r
 unfold RB at hr
 exact ⟨h.bel.trans hb, (ho g (by omega)).trans h.z, setc (setc hr _) _, (ho _ (by omega)).trans h.m, (ho _ (by omega)).trans h.a, hs.below (hb.mono h.hB), h.hB⟩
theorem Md.arr (h : Md Bd g w W A n c k s ns ms) (i : Nat) (v : Value) (he : ns.set! i v = ns') : Md Bd g w (W.setCell ⟨g + 3, i, none⟩ v) A n c k s ns' ms := by
 have hb : Below g W (W.setCell ⟨g + 3, i, none⟩ v) := (Below.refl g W).setCell (p := ⟨g + 3, i, none⟩) (by simp only; omega) _
 have ho : ∀ q, q ≠ g + 3 → (W.setCell ⟨g + 3, i, none⟩ v).heap[q]? = W.heap[q]? := fun q hq => setc_oth _ hq
 exact ⟨h.bel.trans hb, (ho g (by omega)).trans h.z, (ho _ (by omega)).trans h.r, (ho _ (by omega)).trans h.m, by rw [← he]; exact setc h.a v, h.sl.below (hb.mono h.hB), h.hB⟩
theorem Md.mem (h : Md Bd g w W A n c k s ns ms) (i : Nat) (v : Value) (he : ms.set! i v = ms') : Md Bd g w (W.setCell ⟨g + 2, i, none⟩ v) A n c k s ns ms' := by
 have hb : Below g W (W.setCell ⟨g + 2, i, none⟩ v) := (Below.refl g W).setCell (p := ⟨g + 2, i, none⟩) (by simp only; omega) _
 have ho : ∀ q, q ≠ g + 2 → (W.setCell ⟨g + 2, i, none⟩ v).heap[q]? = W.heap[q]? := fun q hq => setc_oth _ hq
 exact ⟨h.bel.trans hb, (ho g (by omega)).trans h.z, (ho _ (by omega)).trans h.r, by rw [← he]; exact setc h.m v, (ho _ (by omega)).trans h.a, h.sl.below (hb.mono h.hB), h.hB⟩
end
theorem below_rd {g : Nat} {W : World} (u v : Value) : Below (g + 1) W ((W.setCell ⟨g + 1, 0, none⟩ u).setCell ⟨g + 1, 1, none⟩ v) := ((Below.refl (g + 1) W).setCell (p := ⟨g + 1, 0, none⟩) (by simp only; omega) _).setCell (p := ⟨g + 1, 1, none⟩) (by simp only; omega) _
theorem md_start (Bd : Nat) (w : World) (hBd : Bd ≤ w.heap.size) (A : Option Addr) (n c : Nat) (b : List UInt8) (h : Sl w Bd (.slice A n c) b) : ∃ W g, W = (((w.alloc (.cells #[.int .i64 0, .int .i64 0, .int .i64 0, .int .i64 0, .slice none 0 0, .slice none 0 0, .slice none 0 0] 50)).alloc (.cells #[.slice A n c, .int .i64 0] 121)).alloc (.cells #[.int .i64 0, .int .i64 0, .int .i64 0, .int .i64 0, .slice none 0 0, .slice none 0 0, .slice none 0 0] 50)).alloc (.cells #[.int .u64 0, .int .u64 0, .int .u64 0, .int .u64 0, .int .u64 0] 122) ∧ g = w.heap.size ∧ Md Bd g w W A n c 0 b #[.int .u64 0, .int .u64 0, .int .u64 0, .int .u64 0, .int .u64 0] #[.int .i64 0, .int .i64 0, .int .i64 0, .int .i64 0, .slice none 0 0, .slice none 0 0, .slice none 0 0] := by
 obtain ⟨W1, g1, e1, hg1, hb1, hq1, hz1⟩ := one_box w (.cells #[.int .i64 0, .int .i64 0, .int .i64 0, .int .i64 0, .slice none 0 0, .slice none 0 0, .slice none 0 0] 50)
 obtain ⟨W2, g2, e2, hg2, hb2, hq2, hz2⟩ := one_box W1 (.cells #[.slice A n c, .int .i64 0] 121)
 obtain ⟨W3, g3, e3, hg3, hb3, hq3, hz3⟩ := one_box W2 (.cells #[.int .i64 0, .int .i64 0, .int .i64 0, .int .i64 0, .slice none 0 0, .slice none 0 0, .slice none 0 0] 50)
 obtain ⟨W4, g4, e4, hg4, hb4, hq4, hz4⟩ := one_box W3 (.cells #[.int .u64 0, .int .u64 0, .int .u64 0, .int .u64 0, .int .u64 0] 122)
 have i2 : g2 = g1 + 1 := by omega
 have i3 : g3 = g1 + 2 := by omega
 have i4 : g4 = g1 + 3 := by omega
 subst i2; subst i3; subst i4
 have k1 : Below g1 w W4 := by
   have := hb1.trans ((hb2.mono hb1.size).trans ((hb3.mono (by omega)).trans (hb4.mono (by omega))))
   rw [hg1]; exact this
 refine ⟨W4, g1, by rw [e4, e3, e2, e1], hg1, k1, ?_, ?_, ?_, hq4, ?_, by omega⟩
 · rw [hb4.block g1 (by omega), hb3.block g1 (by omega), hb2.block g1 (by omega)]; exact hq1
 · unfold RB; rw [hb4.block (g1 + 1) (by omega), hb3.block (g1 + 1) (by omega)]; exact hq2
 · rw [hb4.block (g1 + 2) (by omega)]; exact hq3
 · exact h.below (k1.mono (by omega))
def resS' (b : List UInt8) : Nat × St × Nat := match decS b with
 | some x => (x.1, x.2, 0)
 | none => (0, stz, 3)
def RTd (Bd : Nat) (w w' : World) : Nat → Prop := fun k => (k < Bd ∨ w.heap.size ≤ k) ∧ k < w'.heap.size
def RDecP (Bd : Nat) (w : World) (b : List UInt8) (y : Ending) (w' : World) : Prop := ∃ q : Pl, y = .returned (.tuple #[.int .i64 ((resS' b).1 : Int), stV (resS' b).2.1 q, .int .i64 ((resS' b).2.2 : Int)]) ∧
 Rws w' (RTd Bd w w') (resS' b).2.1 q ∧ ((∀ e ∈ (resS' b).2.1.log.l, e.ok) ∧ ∀ z ∈ (resS' b).2.1.conf, inI z) ∧ Below w.heap.size w w'
theorem put7d {w : World} {g t : Nat} {a0 a1 a2 a3 a4 a5 a6 : Value} (b0 b1 b2 b3 b4 b5 b6 : Value) (h : w.heap[g]? = some (.cells #[a0, a1, a2, a3, a4, a5, a6] t (0, 0))) :
   ∃ F, F = (((((((w.setCell ⟨g, 0, none⟩ b0).setCell ⟨g, 1, none⟩ b1).setCell ⟨g, 2, none⟩ b2).setCell ⟨g, 3, none⟩ b3).setCell ⟨g, 4, none⟩ b4).setCell ⟨g, 5, none⟩ b5).setCell ⟨g, 6, none⟩ b6) ∧ F.heap[g]? = some (.cells #[b0, b1, b2, b3, b4, b5, b6] t (0, 0)) ∧ Below g w F ∧ (∀ k, k ≠ g → F.heap[k]? = w.heap[k]?) ∧ F.heap.size = w.heap.size := by
 obtain ⟨w0, e0⟩ : ∃ W, W = w.setCell ⟨g, 0, none⟩ b0 := ⟨_, rfl⟩
 have r0 : w0.heap[g]? = some (.cells #[b0, a1, a2, a3, a4, a5, a6] t (0, 0)) := by rw [e0]; exact (setc h b0).trans rfl
 have l0 : Below g w w0 := by rw [e0]; exact (Below.refl g w).setCell (p := ⟨g, 0, none⟩) (Nat.le_refl g) b0
 have o0 : ∀ k, k ≠ g → w0.heap[k]? = w.heap[k]? := fun k hk => by rw [e0]; exact setc_oth b0 hk
 have s0 : w0.heap.size = w.heap.size := by rw [e0, World.size_setCell]
 obtain ⟨w1, e1⟩ : ∃ W, W = w0.setCell ⟨g, 1, none⟩ b1 := ⟨_, rfl⟩
 have r1 : w1.heap[g]? = some (.cells #[b0, b1, a2, a3, a4, a5, a6] t (0, 0)) := by rw [e1]; exact (setc r0 b1).trans rfl
 have l1 : Below g w0 w1 := by rw [e1]; exact (Below.refl g w0).setCell (p := ⟨g, 1, none⟩) (Nat.le_refl g) b1
 have o1 : ∀ k, k ≠ g → w1.heap[k]? = w0.heap[k]? := fun k hk => by rw [e1]; exact setc_oth b1 hk
 have s1 : w1.heap.size = w0.heap.size := by rw [e1, World.size_setCell]
 obtain ⟨w2, e2⟩ : ∃ W, W = w1.setCell ⟨g, 2, none⟩ b2 := ⟨_, rfl⟩
 have r2 : w2.heap[g]? = some (.cells #[b0, b1, b2, a3, a4, a5, a6] t (0, 0)) := by rw [e2]; exact (setc r1 b2).trans rfl
 have l2 : Below g w1 w2 := by rw [e2]; exact (Below.refl g w1).setCell (p := ⟨g, 2, none⟩) (Nat.le_refl g) b2
 have o2 : ∀ k, k ≠ g → w2.heap[k]? = w1.heap[k]? := fun k hk => by rw [e2]; exact setc_oth b2 hk
 have s2 : w2.heap.size = w1.heap.size := by rw [e2, World.size_setCell]
 obtain ⟨w3, e3⟩ : ∃ W, W = w2.setCell ⟨g, 3, none⟩ b3 := ⟨_, rfl⟩
 have r3 : w3.heap[g]? = some (.cells #[b0, b1, b2, b3, a4, a5, a6] t (0, 0)) := by rw [e3]; exact (setc r2 b3).trans rfl
 have l3 : Below g w2 w3 := by rw [e3]; exact (Below.refl g w2).setCell (p := ⟨g, 3, none⟩) (Nat.le_refl g) b3
 have o3 : ∀ k, k ≠ g → w3.heap[k]? = w2.heap[k]? := fun k hk => by rw [e3]; exact setc_oth b3 hk
 have s3 : w3.heap.size = w2.heap.size := by rw [e3, World.size_setCell]
 obtain ⟨w4, e4⟩ : ∃ W, W = w3.setCell ⟨g, 4, none⟩ b4 := ⟨_, rfl⟩
 have r4 : w4.heap[g]? = some (.cells #[b0, b1, b2, b3, b4, a5, a6] t (0, 0)) := by rw [e4]; exact (setc r3 b4).trans rfl
 have l4 : Below g w3 w4 := by rw [e4]; exact (Below.refl g w3).setCell (p := ⟨g, 4, none⟩) (Nat.le_refl g) b4
 have o4 : ∀ k, k ≠ g → w4.heap[k]? = w3.heap[k]? := fun k hk => by rw [e4]; exact setc_oth b4 hk
 have s4 : w4.heap.size = w3.heap.size := by rw [e4, World.size_setCell]
 obtain ⟨w5, e5⟩ : ∃ W, W = w4.setCell ⟨g, 5, none⟩ b5 := ⟨_, rfl⟩
 have r5 : w5.heap[g]? = some (.cells #[b0, b1, b2, b3, b4, b5, a6] t (0, 0)) := by rw [e5]; exact (setc r4 b5).trans rfl
 have l5 : Below g w4 w5 := by rw [e5]; exact (Below.refl g w4).setCell (p := ⟨g, 5, none⟩) (Nat.le_refl g) b5
 have o5 : ∀ k, k ≠ g → w5.heap[k]? = w4.heap[k]? := fun k hk => by rw [e5]; exact setc_oth b5 hk
 have s5 : w5.heap.size = w4.heap.size := by rw [e5, World.size_setCell]
 obtain ⟨w6, e6⟩ : ∃ W, W = w5.setCell ⟨g, 6, none⟩ b6 := ⟨_, rfl⟩
 have r6 : w6.heap[g]? = some (.cells #[b0, b1, b2, b3, b4, b5, b6] t (0, 0)) := by rw [e6]; exact (setc r5 b6).trans rfl
 have l6 : Below g w5 w6 := by rw [e6]; exact (Below.refl g w5).setCell (p := ⟨g, 6, none⟩) (Nat.le_refl g) b6
 have o6 : ∀ k, k ≠ g → w6.heap[k]? = w5.heap[k]? := fun k hk => by rw [e6]; exact setc_oth b6 hk
 have s6 : w6.heap.size = w5.heap.size := by rw [e6, World.size_setCell]
 exact ⟨w6, by rw [e6, e5, e4, e3, e2, e1, e0], r6, l0.trans (l1.trans (l2.trans (l3.trans (l4.trans (l5.trans l6))))), fun k hk => (o6 k hk).trans ((o5 k hk).trans ((o4 k hk).trans ((o3 k hk).trans ((o2 k hk).trans ((o1 k hk).trans (o0 k hk)))))), by rw [s6, s5, s4, s3, s2, s1, s0]⟩
def zr7 : Array Value := #[.int .i64 0, .int .i64 0, .int .i64 0, .int .i64 0, .slice none 0 0, .slice none 0 0, .slice none 0 0]
theorem zr7_one : zr7.all (·.oneCell') = true := by simp [zr7, Value.oneCell']
theorem rdec_err {Bd : Nat} {w W : World} {b : List UInt8} (hres : resS' b = (0, stz, 3)) (hb : Below w.heap.size w W) : RDecP Bd w b (.returned (.tuple #[.int .i64 0, .agg zr7, .int .i64 3])) W := by
 unfold RDecP
 rw [hres]
 exact ⟨plz, rfl, ⟨⟨[], RowT.nil_ _ _ _, fun j h => by simp [stz] at h⟩, RowT.nil_ _ _ _, SlT.nil_ _ _⟩, ⟨fun e he => (by cases he), fun z hz => (by cases hz)⟩, hb⟩
theorem rdec_ok {Bd : Nat} {w W : World} {b : List UInt8} {nm : Nat} {s : St} {q : Pl} (hres : resS' b = (nm, s, 0)) (h1 : Rws W (RTd Bd w W) s q) (h2 : (∀ e ∈ s.log.l, e.ok) ∧ ∀ z ∈ s.conf, inI z) (hb : Below w.heap.size w W) : RDecP Bd w b (.returned (.tuple #[.int .i64 (nm : Int), stV s q, .int .i64 0])) W := by
 unfold RDecP
 rw [hres]
 exact ⟨q, rfl, h1, h2, hb⟩
theorem results_tcr {P : Program} {fn : Func} {a p u : Tmp} {ty : TypeId} (h : fn.results = #[.tmp a, .cell p ty, .tmp u]) (tmps : Array Value) (w : World) (g : Nat) (t : TypeId) (cs : Array Value) (fr : Nat × Nat) (d : TypeDesc) (v1 v2 : Value)
   (hv1 : tmps.getD a undef = v1) (hp : tmps.getD p undef = .pointer (some ⟨g, 0, none⟩)) (hv2 : tmps.getD u undef = v2) (hg : w.heap[g]? = some (.cells cs t fr))
   (hu : P.underlying ty = some d) (hd : (match d with | .struct _ | .array _ _ => true | _ => false) = true) (hi : (P.info? ty).map (·.size) = some cs.size) :
   (results fn tmps).run P w = .ok (.tuple #[v1, .agg cs, v2]) w := by
 have hv1' : tmps[a]?.getD undef = v1 := by simpa using hv1
 have hp' : tmps[p]?.getD undef = .pointer (some ⟨g, 0, none⟩) := by simpa using hp
 have hv2' : tmps[u]?.getD undef = v2 := by simpa using hv2
 simp [results, h, Sem.run_bind, Result.andThen, hv1', hp', hv2', asAddr, run_loadVar_row w g t ty cs fr d hg hu hd hi]
set_option maxHeartbeats 64000000 in
theorem RDecS_any (Bd : Nat) (A : Option Addr) (n c : Nat) (b : List UInt8) (w : World) (hBd : Bd ≤ w.heap.size) (h : Sl w Bd (.slice A n c) b) (hl : b.length ≤ 140737488355328) :
   Calls Tryz.prog 25 #[.slice A n c] w (RDecP Bd w b) := by
 obtain ⟨W0, g, hW0, hg, D0⟩ := md_start Bd w hBd A n c b h
 have hBg : Bd ≤ g := D0.hB
 rcases h1 : rUint 1099511627776 (b, 0) with ⟨⟨s1, k1⟩, nm1⟩
 rcases h2 : rUint 1099511627776 (s1, k1) with ⟨⟨s2, k2⟩, nm2⟩
 rcases h3 : rUint 1099511627776 (s2, k2) with ⟨⟨s3, k3⟩, nm3⟩
 rcases h4 : rUint 1099511627776 (s3, k3) with ⟨⟨s4, k4⟩, nm4⟩
 rcases h5 : rUint 1099511627776 (s4, k4) with ⟨⟨s5, k5⟩, nm5⟩
 rcases h6 : rBytes 98 512 (s5, k5) with ⟨⟨s6, k6⟩, x6⟩
 rcases h7 : rBytes 98 1048576 (s6, k6) with ⟨⟨s7, k7⟩, x7⟩
 rcases h8 : rCount 4096 (s7, k7) with ⟨⟨s8, k8⟩, cnt⟩
 rcases ht : takeEs cnt (s8, k8) with ⟨⟨⟨sF, kF⟩, okF⟩, esF⟩
 have hraw := rawS_eq h1 h2 h3 h4 h5 h6 h7 h8 ht
 have hcnt : cnt ≤ 4096 := (rCount_ofS h8).1
 have a1 := rUint_small h1 (by omega)
 have a2 := rUint_small h2 (by omega)
 have a3 := rUint_small h3 (by omega)
 have a4 := rUint_small h4 (by omega)
 have a5 := rUint_small h5 (by omega)
 have wr1 := wrap_small a1
 have wr2 := wrap_small a2
 have wr3 := wrap_small a3
 have wr4 := wrap_small a4
 have wr5 := wrap_small a5
 obtain ⟨n1, hn1⟩ : ∃ m, m = s1.length := ⟨_, rfl⟩
 obtain ⟨n2, hn2⟩ : ∃ m, m = s2.length := ⟨_, rfl⟩
 obtain ⟨n3, hn3⟩ : ∃ m, m = s3.length := ⟨_, rfl⟩
 obtain ⟨n4, hn4⟩ : ∃ m, m = s4.length := ⟨_, rfl⟩
 obtain ⟨n5, hn5⟩ : ∃ m, m = s5.length := ⟨_, rfl⟩
 obtain ⟨n6, hn6⟩ : ∃ m, m = s6.length := ⟨_, rfl⟩
 obtain ⟨n7, hn7⟩ : ∃ m, m = s7.length := ⟨_, rfl⟩
 obtain ⟨n8, hn8⟩ : ∃ m, m = s8.length := ⟨_, rfl⟩
 obtain ⟨m6, hm6⟩ : ∃ m, m = x6.length := ⟨_, rfl⟩
 obtain ⟨m7, hm7⟩ : ∃ m, m = x7.length := ⟨_, rfl⟩
 obtain ⟨mC, hmC⟩ : ∃ m, m = (decC x6).length := ⟨_, rfl⟩
 obtain ⟨bo, hbo⟩ : ∃ bo, bo = okD x6 := ⟨_, rfl⟩
 have ww : ((1099511627776 : Nat) : Int) = 1099511627776 := rfl
 have C1 := fun A c W hB hS => ReadUint_s A n c 0 1099511627776 b W Bd hB hS s1 k1 nm1 n1 h1 hn1
 have C2 := fun A c W hB hS => ReadUint_s A n1 c k1 1099511627776 s1 W Bd hB hS s2 k2 nm2 n2 h2 hn2
 have C3 := fun A c W hB hS => ReadUint_s A n2 c k2 1099511627776 s2 W Bd hB hS s3 k3 nm3 n3 h3 hn3
 have C4 := fun A c W hB hS => ReadUint_s A n3 c k3 1099511627776 s3 W Bd hB hS s4 k4 nm4 n4 h4 hn4
 have C5 := fun A c W hB hS => ReadUint_s A n4 c k4 1099511627776 s4 W Bd hB hS s5 k5 nm5 n5 h5 hn5
 have C6 := fun A c W hB hS => ReadBytes_s A n5 c k5 512 (by omega) s5 W Bd hB hS s6 x6 k6 n6 m6 h6 hn6 hm6
 have C7 := fun A c W hB hS => ReadBytes_s A n6 c k6 1048576 (by omega) s6 W Bd hB hS s7 x7 k7 n7 m7 h7 hn7 hm7
 have C8 := fun A c W hB hS => ReadCount_s A n7 c k7 4096 (by omega) s7 W Bd hB hS s8 k8 cnt n8 h8 hn8
 obtain ⟨f0, hf0⟩ : ∃ f : Nat, f = if bo = true then 0 else 3 := ⟨_, rfl⟩
 have CD := jI fun A c W hS => RCDec_any A m6 c x6 W hS (decC x6) rfl mC hmC f0 (by rw [hf0, hbo])
 have heb : ((f0 : Int) == 0) = bo := by rw [hf0]; cases bo <;> rfl
 rw [ww] at C1 C2 C3 C4 C5
 rw [show ((512 : Nat) : Int) = 512 from rfl] at C6
 rw [show ((1048576 : Nat) : Int) = 1048576 from rfl] at C7
 rw [show ((4096 : Nat) : Int) = 4096 from rfl] at C8
 rw [show ((0 : Nat) : Int) = 0 from rfl] at C1
 have C1 := jI C1
 have C2 := jI C2
 have C3 := jI C3
 have C4 := jI C4
 have C5 := jI C5
 have C6 := jI C6
 have C7 := jI C7
 have C8 := jI C8
 have HRES := jI (show ∀ d bm, d = doneR (sF, kF) → bm = mayS ⟨(nm2 : Int), (nm3 : Int), ⟨(nm4 : Int), (nm5 : Int), esF⟩, decC x6, x7⟩ → resS' b = if (decide (d = 0) && (bo && okF) && decide (1 ≤ nm1) && bm) = true then (nm1, ⟨(nm2 : Int), (nm3 : Int), ⟨(nm4 : Int), (nm5 : Int), esF⟩, decC x6, x7⟩, 0) else (0, stz, 3) from by
   intro d bm hd hbm
   unfold resS' decS okS
   rw [hraw, hd, hbm, hbo]
   by_cases hc : (decide (doneR (sF, kF) = 0) && (okD x6 && okF) && decide (1 ≤ nm1) && mayS ⟨(nm2 : Int), (nm3 : Int), ⟨(nm4 : Int), (nm5 : Int), esF⟩, decC x6, x7⟩) = true
   · rw [if_pos hc, if_pos hc]
   · rw [if_neg hc, if_neg hc])
 have HLD := jI (show LD cnt 0 s8 k8 bo [] sF kF (bo && okF) esF from ⟨Nat.zero_le _, by rw [Nat.sub_zero, ht], by rw [Nat.sub_zero, ht], by rw [Nat.sub_zero, ht]; rfl, fun e he => by cases he⟩)
 have HN := jI (jA hcnt (jA hmC (jA hm7 (jA hn8 (jA hbo hm6)))))
 have HW := jI (jA hW0 hg)
 have HD0 := jI D0
 have HA5 := jI (jA a1 (jA a2 (jA a3 (jA a4 a5))))
 have e00 : ((0 : Nat) : Int) = 0 := rfl
 clear h hl hW0 hg D0 h1 h2 h3 h4 h5 h6 h7 h8 ht hraw hcnt a1 a2 a3 a4 a5 hn1 hn2 hn3 hn4 hn5 hn6 hn7 hn8 hm6 hm7 hmC hbo hf0 ww
 go_enter Tryz.func25, Tryz.ntmps25
 go_upto_region 4 with fail
 rw [← HW.out.1]
 simp only [Nat.add_assoc, Nat.reduceAdd]
 rw [← HW.out.2]
 go_wp2_with fail
 go_loopw [8] (fun ii wr => ∃ (A' : Option Addr) (c' : Nat), (ii = .int .i64 0 ∧ Hid (Md Bd g w wr A' n c' 0 b #[.int .u64 0, .int .u64 0, .int .u64 0, .int .u64 0, .int .u64 0] #[.int .i64 0, .int .i64 0, .int .i64 0, .int .i64 0, .slice none 0 0, .slice none 0 0, .slice none 0 0])) ∨ (ii = .int .i64 1 ∧ Hid (Md Bd g w wr A' n1 c' k1 s1 #[.int .u64 (nm1 : Int), .int .u64 0, .int .u64 0, .int .u64 0, .int .u64 0] #[.int .i64 0, .int .i64 0, .int .i64 0, .int .i64 0, .slice none 0 0, .slice none 0 0, .slice none 0 0])) ∨ (ii = .int .i64 2 ∧ Hid (Md Bd g w wr A' n2 c' k2 s2 #[.int .u64 (nm1 : Int), .int .u64 (nm2 : Int), .int .u64 0, .int .u64 0, .int .u64 0] #[.int .i64 0, .int .i64 0, .int .i64 0, .int .i64 0, .slice none 0 0, .slice none 0 0, .slice none 0 0])) ∨ (ii = .int .i64 3 ∧ Hid (Md Bd g w wr A' n3 c' k3 s3 #[.int .u64 (nm1 : Int), .int .u64 (nm2 : Int), .int .u64 (nm3 : Int), .int .u64 0, .int .u64 0] #[.int .i64 0, .int .i64 0, .int .i64 0, .int .i64 0, .slice none 0 0, .slice none 0 0, .slice none 0 0])) ∨ (ii = .int .i64 4 ∧ Hid (Md Bd g w wr A' n4 c' k4 s4 #[.int .u64 (nm1 : Int), .int .u64 (nm2 : Int), .int .u64 (nm3 : Int), .int .u64 (nm4 : Int), .int .u64 0] #[.int .i64 0, .int .i64 0, .int .i64 0, .int .i64 0, .slice none 0 0, .slice none 0 0, .slice none 0 0])) ∨ (ii = .int .i64 5 ∧ Hid (Md Bd g w wr A' n5 c' k5 s5 #[.int .u64 (nm1 : Int), .int .u64 (nm2 : Int), .int .u64 (nm3 : Int), .int .u64 (nm4 : Int), .int .u64 (nm5 : Int)] #[.int .i64 0, .int .i64 0, .int .i64 0, .int .i64 0, .slice none 0 0, .slice none 0 0, .slice none 0 0]))) (fun ii _ => 5 - (intOf ii).toNat)
 case atStart => exact ⟨A, c, Or.inl ⟨rfl, HD0⟩⟩
 case round =>
   obtain ⟨A', c', hrel⟩ := hrel
   rcases hrel with ⟨rfl, HR⟩ | ⟨rfl, HR⟩ | ⟨rfl, HR⟩ | ⟨rfl, HR⟩ | ⟨rfl, HR⟩ | ⟨rfl, HR⟩
   · have CC := jI (C1.out A' c' wr HR.out.le HR.out.sl)
     obtain ⟨x0, x1, xf0, xf1⟩ := HR.out.r.facts
     rw [e00] at x1
     go_wp2_with (go_at_call 54; go_must (refine CC.out.mono ?_; rintro y w3 ⟨A3, c3, rfl, hs, hb⟩; have H3 := jI (jA (HR.out.call hb) (hs)); clear hs hb x0 x1 xf0 xf1; obtain ⟨x0, x1, xf0, xf1⟩ := H3.out.1.r.facts; have y3 : w3.cell? ⟨g + 3, 0, none⟩ = some (.int .u64 0) := (cell_of_row w3 (g + 3) 0 _ _ (0, 0) H3.out.1.a).trans rfl; have f3 := frozen_of_row w3 (g + 3) 0 _ _ H3.out.1.a))
     go_roundw
     case rel => exact ⟨A3, c3, Or.inr (Or.inl ⟨by go_num, jI ((H3.out.1.rd H3.out.2).arr 0 _ rfl)⟩)⟩
     case measure => simp [intOf]
   · have CC := jI (C2.out A' c' wr HR.out.le HR.out.sl)
     obtain ⟨x0, x1, xf0, xf1⟩ := HR.out.r.facts
     go_wp2_with (go_at_call 54; go_must (refine CC.out.mono ?_; rintro y w3 ⟨A3, c3, rfl, hs, hb⟩; have H3 := jI (jA (HR.out.call hb) (hs)); clear hs hb x0 x1 xf0 xf1; obtain ⟨x0, x1, xf0, xf1⟩ := H3.out.1.r.facts; have y3 : w3.cell? ⟨g + 3, 1, none⟩ = some (.int .u64 0) := (cell_of_row w3 (g + 3) 1 _ _ (0, 0) H3.out.1.a).trans rfl; have f3 := frozen_of_row w3 (g + 3) 1 _ _ H3.out.1.a))
     go_roundw
     case rel => exact ⟨A3, c3, Or.inr (Or.inr (Or.inl ⟨by go_num, jI ((H3.out.1.rd H3.out.2).arr 1 _ rfl)⟩))⟩
     case measure => simp [intOf]
   · have CC := jI (C3.out A' c' wr HR.out.le HR.out.sl)
     obtain ⟨x0, x1, xf0, xf1⟩ := HR.out.r.facts
     go_wp2_with (go_at_call 54; go_must (refine CC.out.mono ?_; rintro y w3 ⟨A3, c3, rfl, hs, hb⟩; have H3 := jI (jA (HR.out.call hb) (hs)); clear hs hb x0 x1 xf0 xf1; obtain ⟨x0, x1, xf0, xf1⟩ := H3.out.1.r.facts; have y3 : w3.cell? ⟨g + 3, 2, none⟩ = some (.int .u64 0) := (cell_of_row w3 (g + 3) 2 _ _ (0, 0) H3.out.1.a).trans rfl; have f3 := frozen_of_row w3 (g + 3) 2 _ _ H3.out.1.a))
     go_roundw
     case rel => exact ⟨A3, c3, Or.inr (Or.inr (Or.inr (Or.inl ⟨by go_num, jI ((H3.out.1.rd H3.out.2).arr 2 _ rfl)⟩)))⟩
     case measure => simp [intOf]
   · have CC := jI (C4.out A' c' wr HR.out.le HR.out.sl)
     obtain ⟨x0, x1, xf0, xf1⟩ := HR.out.r.facts
     go_wp2_with (go_at_call 54; go_must (refine CC.out.mono ?_; rintro y w3 ⟨A3, c3, rfl, hs, hb⟩; have H3 := jI (jA (HR.out.call hb) (hs)); clear hs hb x0 x1 xf0 xf1; obtain ⟨x0, x1, xf0, xf1⟩ := H3.out.1.r.facts; have y3 : w3.cell? ⟨g + 3, 3, none⟩ = some (.int .u64 0) := (cell_of_row w3 (g + 3) 3 _ _ (0, 0) H3.out.1.a).trans rfl; have f3 := frozen_of_row w3 (g + 3) 3 _ _ H3.out.1.a))
     go_roundw
     case rel => exact ⟨A3, c3, Or.inr (Or.inr (Or.inr (Or.inr (Or.inl ⟨by go_num, jI ((H3.out.1.rd H3.out.2).arr 3 _ rfl)⟩))))⟩
     case measure => simp [intOf]
   · have CC := jI (C5.out A' c' wr HR.out.le HR.out.sl)
     obtain ⟨x0, x1, xf0, xf1⟩ := HR.out.r.facts
     go_wp2_with (go_at_call 54; go_must (refine CC.out.mono ?_; rintro y w3 ⟨A3, c3, rfl, hs, hb⟩; have H3 := jI (jA (HR.out.call hb) (hs)); clear hs hb x0 x1 xf0 xf1; obtain ⟨x0, x1, xf0, xf1⟩ := H3.out.1.r.facts; have y3 : w3.cell? ⟨g + 3, 4, none⟩ = some (.int .u64 0) := (cell_of_row w3 (g + 3) 4 _ _ (0, 0) H3.out.1.a).trans rfl; have f3 := frozen_of_row w3 (g + 3) 4 _ _ H3.out.1.a))
     go_roundw
     case rel => exact ⟨A3, c3, Or.inr (Or.inr (Or.inr (Or.inr (Or.inr (⟨by go_num, jI ((H3.out.1.rd H3.out.2).arr 4 _ rfl)⟩)))))⟩
     case measure => simp [intOf]
   · go_upto_region 8 with fail
     have y1 : wr.cell? ⟨g + 3, 1, none⟩ = some (.int .u64 (nm2 : Int)) := (cell_of_row wr (g + 3) 1 _ _ (0, 0) HR.out.a).trans rfl
     have y2 : wr.cell? ⟨g + 3, 2, none⟩ = some (.int .u64 (nm3 : Int)) := (cell_of_row wr (g + 3) 2 _ _ (0, 0) HR.out.a).trans rfl
     have y3 : wr.cell? ⟨g + 3, 3, none⟩ = some (.int .u64 (nm4 : Int)) := (cell_of_row wr (g + 3) 3 _ _ (0, 0) HR.out.a).trans rfl
     have y4 : wr.cell? ⟨g + 3, 4, none⟩ = some (.int .u64 (nm5 : Int)) := (cell_of_row wr (g + 3) 4 _ _ (0, 0) HR.out.a).trans rfl
     have z0 : wr.cell? ⟨g + 2, 0, none⟩ = some (.int .i64 0) := (cell_of_row wr (g + 2) 0 _ _ (0, 0) HR.out.m).trans rfl
     have f0 := frozen_of_row wr (g + 2) 0 _ _ HR.out.m
     have z1 : wr.cell? ⟨g + 2, 1, none⟩ = some (.int .i64 0) := (cell_of_row wr (g + 2) 1 _ _ (0, 0) HR.out.m).trans rfl
     have f1 := frozen_of_row wr (g + 2) 1 _ _ HR.out.m
     have z2 : wr.cell? ⟨g + 2, 2, none⟩ = some (.int .i64 0) := (cell_of_row wr (g + 2) 2 _ _ (0, 0) HR.out.m).trans rfl
     have f2 := frozen_of_row wr (g + 2) 2 _ _ HR.out.m
     have z3 : wr.cell? ⟨g + 2, 3, none⟩ = some (.int .i64 0) := (cell_of_row wr (g + 2) 3 _ _ (0, 0) HR.out.m).trans rfl
     have f3 := frozen_of_row wr (g + 2) 3 _ _ HR.out.m
     go_region
     obtain ⟨U4, hU4⟩ : ∃ V, V = ((((wr.setCell ⟨g + 2, 0, none⟩ (.int .i64 (nm2 : Int))).setCell ⟨g + 2, 1, none⟩ (.int .i64 (nm3 : Int))).setCell ⟨g + 2, 2, none⟩ (.int .i64 (nm4 : Int))).setCell ⟨g + 2, 3, none⟩ (.int .i64 (nm5 : Int))).drew := ⟨_, rfl⟩
     have HU4 := jI (show Md Bd g w U4 A' n5 c' k5 s5 #[.int .u64 (nm1 : Int), .int .u64 (nm2 : Int), .int .u64 (nm3 : Int), .int .u64 (nm4 : Int), .int .u64 (nm5 : Int)] #[.int .i64 (nm2 : Int), .int .i64 (nm3 : Int), .int .i64 (nm4 : Int), .int .i64 (nm5 : Int), .slice none 0 0, .slice none 0 0, .slice none 0 0] from by rw [hU4]; exact ((((HR.out.mem 0 _ rfl).mem 1 _ rfl).mem 2 _ rfl).mem 3 _ rfl).call (Below.refl _ _).drew)
     rw [← hU4]
     clear hU4 y1 y2 y3 y4 z0 z1 z2 z3 f0 f1 f2 f3
     obtain ⟨x0, x1, xf0, xf1⟩ := HU4.out.r.facts
     have CC := jI (C6.out A' c' U4 HU4.out.le HU4.out.sl)
     go_upto_region 10 with (go_at_call 55; go_must (refine CC.out.mono ?_; rintro y w9 ⟨A6, c6, Ax, cx, rfl, hs, hx, hb⟩; have H9 := jI (jA (HU4.out.call hb) (jA hs hx)); clear hs hx hb x0 x1 xf0 xf1; obtain ⟨x0, x1, xf0, xf1⟩ := H9.out.1.r.facts))
     obtain ⟨V9, hV9⟩ : ∃ V, V = (w9.setCell ⟨g + 1, 0, none⟩ (.slice A6 n6 c6)).setCell ⟨g + 1, 1, none⟩ (.int .i64 (k6 : Int)) := ⟨_, rfl⟩
     have HV9 := jI (show Md Bd g w V9 A6 n6 c6 k6 s6 #[.int .u64 (nm1 : Int), .int .u64 (nm2 : Int), .int .u64 (nm3 : Int), .int .u64 (nm4 : Int), .int .u64 (nm5 : Int)] #[.int .i64 (nm2 : Int), .int .i64 (nm3 : Int), .int .i64 (nm4 : Int), .int .i64 (nm5 : Int), .slice none 0 0, .slice none 0 0, .slice none 0 0] ∧ Sl V9 Bd (.slice Ax m6 cx) x6 from by rw [hV9]; exact ⟨H9.out.1.rd H9.out.2.1, H9.out.2.2.below ((below_rd _ _).mono (by omega))⟩)
     rw [← hV9]
     clear hV9 x0 x1 xf0 xf1 CC
     obtain ⟨x0, x1, xf0, xf1⟩ := HV9.out.1.r.facts
     have CC := jI (C7.out A6 c6 V9 HV9.out.1.le HV9.out.1.sl)
     go_upto_region 11 with (go_at_call 55; go_must (refine CC.out.mono ?_; rintro y w10 ⟨A7, c7, Ay, cy, rfl, hs, hx, hb⟩; have H10 := jI (jA (HV9.out.1.call hb) (jA hs (jA hx (HV9.out.2.below (hb.mono HV9.out.1.le))))); clear hs hx hb x0 x1 xf0 xf1; obtain ⟨x0, x1, xf0, xf1⟩ := H10.out.1.r.facts; have y6 : w10.cell? ⟨g + 2, 6, none⟩ = some (.slice none 0 0) := (cell_of_row w10 (g + 2) 6 _ _ (0, 0) H10.out.1.m).trans rfl; have f6 := frozen_of_row w10 (g + 2) 6 _ _ H10.out.1.m))
     obtain ⟨V10, hV10⟩ : ∃ V, V = ((w10.setCell ⟨g + 1, 0, none⟩ (.slice A7 n7 c7)).setCell ⟨g + 1, 1, none⟩ (.int .i64 (k7 : Int))).setCell ⟨g + 2, 6, none⟩ (.slice Ay m7 cy) := ⟨_, rfl⟩
     have HV10 := jI (show Md Bd g w V10 A7 n7 c7 k7 s7 #[.int .u64 (nm1 : Int), .int .u64 (nm2 : Int), .int .u64 (nm3 : Int), .int .u64 (nm4 : Int), .int .u64 (nm5 : Int)] #[.int .i64 (nm2 : Int), .int .i64 (nm3 : Int), .int .i64 (nm4 : Int), .int .i64 (nm5 : Int), .slice none 0 0, .slice none 0 0, .slice Ay m7 cy] ∧ Sl V10 Bd (.slice Ax m6 cx) x6 ∧ Sl V10 Bd (.slice Ay m7 cy) x7 from by
       have hb := (below_rd (g := g) (W := w10) (.slice A7 n7 c7) (.int .i64 (k7 : Int))).setCell (p := ⟨g + 2, 6, none⟩) (by simp only; omega) (.slice Ay m7 cy)
       rw [hV10]; exact ⟨(H10.out.1.rd H10.out.2.1).mem 6 _ rfl, H10.out.2.2.2.below (hb.mono (by omega)), H10.out.2.2.1.below (hb.mono (by omega))⟩)
     rw [← hV10]
     clear hV10 x0 x1 xf0 xf1 CC y6 f6
     have CC := jI (CD.out Ax cx V10 (Bys.of_sl (HV10.out.2.1.more HV10.out.1.le)))
     go_upto_region 12 with (go_at_call 56; go_must (refine CC.out.mono ?_; rintro y w11 ⟨A1, c1, rfl, ho, hb⟩; have H11 := jI (jA (HV10.out.1.call hb) (jA (HV10.out.2.2.below (hb.mono HV10.out.1.le)) (jA (show IntsT w11 (fun q => g + 4 ≤ q ∧ q < w11.heap.size) (.slice A1 mC c1) (decC x6) from by (have h9 := RowT.of_own ho (fun q => g + 4 ≤ q ∧ q < w11.heap.size) (fun q hq => by (have h1 := ho.lt q hq; have h2 := HV10.out.1.lt; omega)); rw [HN.out.2.1] at h9 ⊢; exact h9)) True.intro))); clear ho hb))
     have y5 : w11.cell? ⟨g + 2, 5, none⟩ = some (.slice none 0 0) := (cell_of_row w11 (g + 2) 5 _ _ (0, 0) H11.out.1.m).trans rfl
     have f5 := frozen_of_row w11 (g + 2) 5 _ _ H11.out.1.m
     go_upto_region 13 with fail
     obtain ⟨V12, hV12⟩ : ∃ V, V = w11.setCell ⟨g + 2, 5, none⟩ (.slice A1 mC c1) := ⟨_, rfl⟩
     have HV12 := jI (show Md Bd g w V12 A7 n7 c7 k7 s7 #[.int .u64 (nm1 : Int), .int .u64 (nm2 : Int), .int .u64 (nm3 : Int), .int .u64 (nm4 : Int), .int .u64 (nm5 : Int)] #[.int .i64 (nm2 : Int), .int .i64 (nm3 : Int), .int .i64 (nm4 : Int), .int .i64 (nm5 : Int), .slice none 0 0, .slice A1 mC c1, .slice Ay m7 cy] ∧ Sl V12 Bd (.slice Ay m7 cy) x7 ∧ IntsT V12 (fun q => g + 4 ≤ q ∧ q < V12.heap.size) (.slice A1 mC c1) (decC x6) from by
       have hb := (Below.refl (g + 2) w11).setCell (p := ⟨g + 2, 5, none⟩) (by simp only; omega) (.slice A1 mC c1)
       rw [hV12]; exact ⟨H11.out.1.mem 5 _ rfl, H11.out.2.1.below (hb.mono (by omega)), (RowT.kept H11.out.2.2.1 fun q hq _ => setc_oth _ (by have := hq.1; omega)).mono fun q hq => ⟨hq.1, by rw [World.size_setCell]; exact hq.2⟩⟩)
     rw [← hV12]
     clear hV12 y5 f5 CC
     obtain ⟨x0, x1, xf0, xf1⟩ := HV12.out.1.r.facts
     have CC := jI (C8.out A7 c7 V12 HV12.out.1.le HV12.out.1.sl)
     go_upto_region 14 with (go_at_call 57; go_must (refine CC.out.mono ?_; rintro y w13 ⟨A8, c8, rfl, hs, hb⟩; have H13 := jI (jA (HV12.out.1.call hb) (jA hs (jA (HV12.out.2.1.below (hb.mono HV12.out.1.le)) ((RowT.kept HV12.out.2.2 fun q hq hq2 => hb.block q hq2).mono fun q (hq : g + 4 ≤ q ∧ q < V12.heap.size) => (show g + 4 ≤ q ∧ q < w13.heap.size from ⟨hq.1, Nat.lt_of_lt_of_le hq.2 hb.size⟩))))); clear hs hb x0 x1 xf0 xf1; obtain ⟨x0, x1, xf0, xf1⟩ := H13.out.1.r.facts))
     obtain ⟨V13, hV13⟩ : ∃ V, V = (w13.setCell ⟨g + 1, 0, none⟩ (.slice A8 n8 c8)).setCell ⟨g + 1, 1, none⟩ (.int .i64 (k8 : Int)) := ⟨_, rfl⟩
     have HV13 := jI (show Md Bd g w V13 A8 n8 c8 k8 s8 #[.int .u64 (nm1 : Int), .int .u64 (nm2 : Int), .int .u64 (nm3 : Int), .int .u64 (nm4 : Int), .int .u64 (nm5 : Int)] #[.int .i64 (nm2 : Int), .int .i64 (nm3 : Int), .int .i64 (nm4 : Int), .int .i64 (nm5 : Int), .slice none 0 0, .slice A1 mC c1, .slice Ay m7 cy] ∧ Sl V13 Bd (.slice Ay m7 cy) x7 ∧ IntsT V13 (fun q => g + 4 ≤ q ∧ q < V13.heap.size) (.slice A1 mC c1) (decC x6) from by
       have hb := below_rd (g := g) (W := w13) (.slice A8 n8 c8) (.int .i64 (k8 : Int))
       rw [hV13]; exact ⟨H13.out.1.rd H13.out.2.1, H13.out.2.2.1.below (hb.mono (by omega)), (RowT.kept H13.out.2.2.2 fun q hq _ => by rw [setc_oth _ (by have := hq.1; omega), setc_oth _ (by have := hq.1; omega)]).mono fun q hq => ⟨hq.1, by simp only [World.size_setCell]; exact hq.2⟩⟩)
     rw [← hV13]
     clear hV13 x0 x1 xf0 xf1 CC
     obtain ⟨CB, hCB⟩ : ∃ CB, CB = V13.heap.size := ⟨_, rfl⟩
     have HCB := jI (show g + 4 ≤ CB by have := HV13.out.1.lt; omega)
     have HV13 := jI (show Md Bd g w V13 A8 n8 c8 k8 s8 #[.int .u64 (nm1 : Int), .int .u64 (nm2 : Int), .int .u64 (nm3 : Int), .int .u64 (nm4 : Int), .int .u64 (nm5 : Int)] #[.int .i64 (nm2 : Int), .int .i64 (nm3 : Int), .int .i64 (nm4 : Int), .int .i64 (nm5 : Int), .slice none 0 0, .slice A1 mC c1, .slice Ay m7 cy] ∧ (CB ≤ V13.heap.size ∧ Sl V13 Bd (.slice Ay m7 cy) x7) ∧ IntsT V13 (fun q => g + 4 ≤ q ∧ q < CB) (.slice A1 mC c1) (decC x6) from ⟨HV13.out.1, ⟨by omega, HV13.out.2.1⟩, by rw [hCB]; exact HV13.out.2.2⟩)
     clear hCB
     clear C1 C2 C3 C4 C5 C6 C7 C8 CD HD0 HU4 H9 HV9 H10 HV10 H11 HV12 H13 wr2 wr3 wr4 wr5
     go_wp2_with fail
     go_loopw [9, 13, 14] (fun vx okv ii wr => ∃ (j : Nat) (es : List En) (okb : Bool) (s : List UInt8) (k nn : Nat) (A' : Option Addr) (c' : Nat) (va : Value), okv = .bool okb ∧ ii = .int .i64 (j : Int) ∧ es.length = j ∧ Hid (nn = s.length ∧ Md Bd g w wr A' nn c' k s #[.int .u64 (nm1 : Int), .int .u64 (nm2 : Int), .int .u64 (nm3 : Int), .int .u64 (nm4 : Int), .int .u64 (nm5 : Int)] #[.int .i64 (nm2 : Int), .int .i64 (nm3 : Int), .int .i64 (nm4 : Int), .int .i64 (nm5 : Int), va, .slice A1 mC c1, .slice Ay m7 cy] ∧ CB ≤ wr.heap.size ∧ Sl wr Bd (.slice Ay m7 cy) x7 ∧ IntsT wr (fun q => g + 4 ≤ q ∧ q < CB) (.slice A1 mC c1) (decC x6) ∧ OwnE wr CB (fun q => q < Bd) 96 va es ∧ LD cnt j s k okb es sF kF (bo && okF) esF)) (fun _ _ ii _ => cnt - (intOf ii).toNat)
     case atStart => exact ⟨0, [], bo, s8, k8, n8, A8, c8, .slice none 0 0, rfl, rfl, rfl, jI ⟨HN.out.2.2.2.1, HV13.out.1, HV13.out.2.1.1, HV13.out.2.1.2, HV13.out.2.2, OwnE.nil_ _ _ _ _, HLD.out⟩⟩
     case round =>
       obtain ⟨j, es, okb, s, k, nn, A', c', va, rfl, rfl, hes, HI⟩ := hrel
       obtain ⟨Av, cv, rfl, -, -⟩ := HI.out.2.2.2.2.2.1.form hes
       obtain ⟨x0, x1, xf0, xf1⟩ := HI.out.2.1.r.facts
       by_cases hgo : j < cnt ∧ k = 0
       · obtain ⟨hlt, rfl⟩ := hgo
         have i1 : (j : Int) < (cnt : Int) := by omega
         rw [e00] at x1
         rcases hrb : rBytes 98 4200 (s, 0) with ⟨⟨t1, q1⟩, x⟩
         rcases hde : decE x with ⟨e, f⟩
         obtain ⟨nn1, hnn1⟩ : ∃ nn1, nn1 = t1.length := ⟨_, rfl⟩
         obtain ⟨mx, hmx⟩ : ∃ mx, mx = x.length := ⟨_, rfl⟩
         obtain ⟨me, hme⟩ : ∃ me, me = e.data.length := ⟨_, rfl⟩
         have CR := ReadBytes_s A' nn c' 0 4200 (by omega) s wr Bd HI.out.2.1.le HI.out.2.1.sl t1 x q1 nn1 mx hrb hnn1 hmx
         rw [e00, show ((4200 : Nat) : Int) = 4200 from rfl] at CR
         have CR := jI CR
         have CDE := jI fun Ax cx W hB' hS => RefDec_s Ax mx cx x W Bd hB' hS e f me hde hme
         have HL := jI (ld_next HI.out.2.2.2.2.2.2 hlt hrb hde)
         have HK := jI (jA hes (jA hnn1 (jA hme hlt)))
         clear hrb hde hnn1 hmx hme hes
         go_upto_region 18 with fail
         go_upto_region 19 with (go_at_call 55; go_must (refine CR.out.mono ?_; rintro y w1 ⟨A9, c9, Ax, cx, rfl, hS1, hX1, hb1⟩; have HU := jI (jA (HI.out.2.1.call hb1) (jA hS1 (jA hX1 (jA (Nat.le_trans HI.out.2.2.1 hb1.size) (jA (HI.out.2.2.2.1.below (hb1.mono HI.out.2.1.le)) (jA (RowT.kept HI.out.2.2.2.2.1 fun q hq hq2 => hb1.block q hq2) (HI.out.2.2.2.2.2.1.more hb1))))))); clear hS1 hX1 hb1 x0 x1 xf0 xf1; obtain ⟨x0, x1, xf0, xf1⟩ := HU.out.1.r.facts))
         obtain ⟨V1, hV1⟩ : ∃ W, W = (w1.setCell ⟨g + 1, 0, none⟩ (.slice A9 nn1 c9)).setCell ⟨g + 1, 1, none⟩ (.int .i64 (q1 : Int)) := ⟨_, rfl⟩
         have HV := jI (show Md Bd g w V1 A9 nn1 c9 q1 t1 #[.int .u64 (nm1 : Int), .int .u64 (nm2 : Int), .int .u64 (nm3 : Int), .int .u64 (nm4 : Int), .int .u64 (nm5 : Int)] #[.int .i64 (nm2 : Int), .int .i64 (nm3 : Int), .int .i64 (nm4 : Int), .int .i64 (nm5 : Int), .slice Av j cv, .slice A1 mC c1, .slice Ay m7 cy] ∧ CB ≤ V1.heap.size ∧ Sl V1 Bd (.slice Ay m7 cy) x7 ∧ IntsT V1 (fun q => g + 4 ≤ q ∧ q < CB) (.slice A1 mC c1) (decC x6) ∧ OwnE V1 CB (fun q => q < Bd) 96 (.slice Av j cv) es ∧ Sl V1 Bd (.slice Ax mx cx) x from by
           have hb := below_rd (g := g) (W := w1) (.slice A9 nn1 c9) (.int .i64 (q1 : Int))
           have hcb := HCB.out
           rw [hV1]
           exact ⟨HU.out.1.rd HU.out.2.1, by simp only [World.size_setCell]; exact HU.out.2.2.2.1, HU.out.2.2.2.2.1.below (hb.mono (by omega)), RowT.kept HU.out.2.2.2.2.2.1 fun q hq _ => by rw [setc_oth _ (by have := hq.1; omega), setc_oth _ (by have := hq.1; omega)],
             (HU.out.2.2.2.2.2.2.setp ⟨g + 1, 0, none⟩ (by simp only; omega) (by simp only; omega) (.slice A9 nn1 c9)).setp ⟨g + 1, 1, none⟩ (by simp only; omega) (by simp only; omega) (.int .i64 (q1 : Int)), HU.out.2.2.1.below (hb.mono (by omega))⟩)
         rw [← hV1]
         clear hV1 x0 x1 xf0 xf1
         go_upto_region 20 with (go_at_call 58; go_must (refine (CDE.out Ax cx V1 HV.out.1.le HV.out.2.2.2.2.2).mono ?_; rintro y w2 ⟨Ae, ce, rfl, hS2, hb2⟩; have H2 := jI (jA hS2 hb2); clear hS2 hb2))
         obtain ⟨V2, q2, hV2, hq2, hbw, E, hsz2⟩ := one_box w2 (.cells #[.int .i64 e.index, .int .i64 e.term, .int .i64 e.kind, .slice Ae me ce] 96)
         have hb3 : Below V1.heap.size V1 V2 := H2.out.2.trans (hbw.mono H2.out.2.size)
         have H3 := jI (jA (HV.out.1.call hb3) (jA (Nat.le_trans HV.out.2.1 hb3.size) (jA (HV.out.2.2.1.below (hb3.mono HV.out.1.le)) (jA (RowT.kept HV.out.2.2.2.1 fun q _ hq2 => hb3.block q hq2) (jA (HV.out.2.2.2.2.1.more hb3) (jA (H2.out.1.below (hbw.mono (Nat.le_trans HV.out.1.le H2.out.2.size))) E))))))
         rw [← hV2, ← hq2]
         clear hV2 hq2 hb3 hbw hsz2
         obtain ⟨e0, e1, e2, e3⟩ := cells4 E
         clear E
         obtain ⟨ob, hob⟩ : ∃ ob, ob = (okb && decide (f = 0)) := ⟨_, rfl⟩
         have HL2 := jI (show LD cnt (j + 1) t1 q1 ob (es ++ [e]) sF kF (bo && okF) esF by rw [hob]; exact HL.out)
         clear HL
         have three : (okb = false ∧ ob = false) ∨ (okb = true ∧ f = 0 ∧ ob = true) ∨ (okb = true ∧ ((f : Int) == 0) = false ∧ ob = false) := by
           subst hob
           cases okb
           · exact Or.inl ⟨rfl, rfl⟩
           · by_cases hf : f = 0
             · exact Or.inr (Or.inl ⟨rfl, hf, by simp [hf]⟩)
             · exact Or.inr (Or.inr ⟨rfl, by simp; exact hf, by simp [hf]⟩)
         clear hob heb
         have y4 : V2.cell? ⟨g + 2, 4, none⟩ = some (.slice Av j cv) := (cell_of_row V2 (g + 2) 4 _ _ (0, 0) H3.out.1.m).trans rfl
         rcases three with ⟨rfl, rfl⟩ | ⟨rfl, rfl, rfl⟩ | ⟨rfl, hf, rfl⟩
         all_goals
           try rw [e00]
           go_upto_region 21 with fail
           go_upto_region 17 with (at_builtin; go_must (refine wpList_pushE (B := CB) (Q := fun k => k < Bd) (t := 96) (l := es) (H3.out.2.2.2.2.1.more (below_alloc V2 _)) rfl _ _ 46 Tryz.underlying46 info_ref_ rfl rfl V2.heap.size e Ae ce rfl ?c0 ?c1 ?c2 ?c3 ?c4))
           case c0 => rw [← HK.out.2.2.1]; exact heap_alloc_new V2 _
           case c1 =>
             rw [← HK.out.2.2.1]
             have hsz := H3.out.2.1
             have hcb := HCB.out
             refine ((H3.out.2.2.2.2.2.1.below ((below_alloc V2 _).mono (by omega))).toT).mono fun k hk => ⟨hk, by have hk' : k < Bd := hk; rw [World.size_alloc]; omega, fun e' => ?_⟩
             have h1 := (H3.out.2.2.2.2.1.lt k e').1
             have hk' : k < Bd := hk
             omega
           case c2 => have h1 := HK.out.1; have h2 := HK.out.2.2.2; have h3 := HN.out.1; omega
           case c3 => have h1 := H3.out.2.1; rw [World.size_alloc]; omega
           case c4 =>
             intro v' w' ho' hg' _
             obtain ⟨Av2, cv2, rfl, -, -⟩ := ho'.form (j := j + 1) (by rw [List.length_append, HK.out.1]; rfl)
             have hsz := H3.out.2.1
             have hcb := HCB.out
             have hb5 : Below CB V2 w' := ((below_alloc V2 (Obj.cells #[.int .i64 e.index, .int .i64 e.term, .int .i64 e.kind, .slice Ae me ce] 96)).mono hsz).trans ((Below.refl CB _).grown hg' (by rw [World.size_alloc]; omega) fun k hk => (H3.out.2.2.2.2.1.lt k hk).1)
             have T := H3.out.1.beneath hb5 (by omega)
             have y4 : w'.cell? ⟨g + 2, 4, none⟩ = some (.slice Av j cv) := (cell_of_row w' (g + 2) 4 _ _ (0, 0) T.m).trans rfl
             have f4 := frozen_of_row w' (g + 2) 4 _ _ T.m
             have hs2 : Below (g + 2) w' (w'.setCell ⟨g + 2, 4, none⟩ (.slice Av2 (j + 1) cv2)) := (Below.refl (g + 2) w').setCell (p := ⟨g + 2, 4, none⟩) (by simp only; omega) _
             have H4 := jI (jA (show Md Bd g w (w'.setCell ⟨g + 2, 4, none⟩ (.slice Av2 (j + 1) cv2)) A9 nn1 c9 q1 t1 #[.int .u64 (nm1 : Int), .int .u64 (nm2 : Int), .int .u64 (nm3 : Int), .int .u64 (nm4 : Int), .int .u64 (nm5 : Int)] #[.int .i64 (nm2 : Int), .int .i64 (nm3 : Int), .int .i64 (nm4 : Int), .int .i64 (nm5 : Int), .slice Av2 (j + 1) cv2, .slice A1 mC c1, .slice Ay m7 cy] from T.mem 4 _ rfl) (jA (show CB ≤ (w'.setCell ⟨g + 2, 4, none⟩ (.slice Av2 (j + 1) cv2)).heap.size by rw [World.size_setCell]; exact Nat.le_trans hsz hb5.size) (jA ((H3.out.2.2.1.below (hb5.mono (by omega))).below (hs2.mono (by omega))) (jA (RowT.kept (w' := w'.setCell ⟨g + 2, 4, none⟩ (.slice Av2 (j + 1) cv2)) H3.out.2.2.2.1 fun q hq _ => (setc_oth _ (by have := hq.1; omega)).trans (hb5.block q hq.2)) (ho'.setp ⟨g + 2, 4, none⟩ (by simp only; omega) (by simp only; omega) (.slice Av2 (j + 1) cv2))))))
             clear T ho' hg' hb5 hsz hcb hs2
             have hjj := HK.out.2.2.2
             have hcc := HN.out.1
             go_upto_region 17 with fail
             go_wp2_with fail
             go_roundw
             case rel => exact ⟨j + 1, es ++ [e], _, t1, q1, nn1, A9, c9, _, rfl, by go_num, by rw [List.length_append, HK.out.1]; rfl, jI ⟨HK.out.2.1, H4.out.1, H4.out.2.1, H4.out.2.2.1, H4.out.2.2.2.1, H4.out.2.2.2.2, HL2.out⟩⟩
             case measure => have := HK.out.2.2.2; simp [intOf]; omega
       · have hend : j = cnt ∨ k ≠ 0 := by have := HI.out.2.2.2.2.2.2.le; omega
         obtain ⟨z1, z2, z3, z4⟩ := ld_end HI.out.2.2.2.2.2.2 hend
         obtain ⟨d, hd⟩ : ∃ d, d = doneR (s, k) := ⟨_, rfl⟩
         obtain ⟨bm, hbm⟩ : ∃ bm, bm = mayS ⟨(nm2 : Int), (nm3 : Int), ⟨(nm4 : Int), (nm5 : Int), es⟩, decC x6, x7⟩ := ⟨_, rfl⟩
         have hres := HRES.out d bm (by rw [hd, z1, z2]) (by rw [hbm, z4])
         rw [← z3, ← z4] at hres
         have HSB := jI hbm
         have HDD := RefDone_s A' nn c' k s HI.out.1 wr d hd
         clear z1 z2 z3 z4 hd hbm
         have hexit : ¬ ((j : Int) < (cnt : Int)) ∨ ((j : Int) < (cnt : Int) ∧ ((k : Int) == 0) = false) := by
           rcases hend with h1 | h1
           · exact Or.inl (by omega)
           · by_cases h2 : j < cnt
             · exact Or.inr ⟨by omega, by simp; exact h1⟩
             · exact Or.inl (by omega)
         have five : (((d : Int) != 0) = true ∧ Hid (resS' b = (0, stz, 3))) ∨ (d = 0 ∧ okb = false ∧ Hid (resS' b = (0, stz, 3))) ∨ (d = 0 ∧ okb = true ∧ nm1 = 0 ∧ Hid (resS' b = (0, stz, 3))) ∨ (d = 0 ∧ okb = true ∧ ((nm1 : Int) == 0) = false ∧ bm = false ∧ Hid (resS' b = (0, stz, 3))) ∨ (d = 0 ∧ okb = true ∧ ((nm1 : Int) == 0) = false ∧ bm = true ∧ Hid (resS' b = (nm1, ⟨(nm2 : Int), (nm3 : Int), ⟨(nm4 : Int), (nm5 : Int), es⟩, decC x6, x7⟩, 0))) := by
           by_cases h0 : d = 0
           · cases okb with
             | false => exact Or.inr (Or.inl ⟨h0, rfl, jI (by rw [hres, if_neg (by simp)])⟩)
             | true =>
               by_cases hn : nm1 = 0
               · exact Or.inr (Or.inr (Or.inl ⟨h0, rfl, hn, jI (by rw [hres, if_neg (by simp [hn])])⟩))
               · cases bm with
                 | false => exact Or.inr (Or.inr (Or.inr (Or.inl ⟨h0, rfl, by simp; exact hn, rfl, jI (by rw [hres, if_neg (by simp)])⟩)))
                 | true => exact Or.inr (Or.inr (Or.inr (Or.inr ⟨h0, rfl, by simp; exact hn, rfl, jI (by rw [hres, if_pos (by simp [h0]; omega)])⟩)))
           · exact Or.inl ⟨by simp; omega, jI (by rw [hres, if_neg (by simp [h0])])⟩
         clear hres hgo hend heb HLD HRES HV13
         have HX := jI hes
         rcases hexit with h1 | ⟨h1, h2⟩
         all_goals
           go_upto_region 22 with fail
           rcases five with ⟨c0, hres⟩ | ⟨rfl, rfl, hres⟩ | ⟨rfl, rfl, rfl, hres⟩ | ⟨rfl, rfl, hn1, rfl, hres⟩ | ⟨rfl, rfl, hn1, rfl, hres⟩
           · have HDD := jI HDD
             go_wp2_with (first | (go_at_call 59; go_must (refine HDD.out.mono ?_; rintro y w5 ⟨rfl, hb⟩; have H5 := jI (jA (HI.out.2.1.call hb) hb); clear hb; have y0 : w5.cell? ⟨g + 3, 0, none⟩ = some (.int .u64 (nm1 : Int)) := (cell_of_row w5 (g + 3) 0 _ _ (0, 0) H5.out.1.a).trans rfl; have hz := H5.out.1.z)) | (refine wpList_store_row rfl 50 _ _ rfl g zr7 rfl rfl 50 _ hz rfl rfl zr7_one ?_))
             have hr := results_tcr (P := Tryz.prog) (fn := Tryz.f25) (a := 2) (p := 3) (u := 4) (ty := 50) rfl (g := g) (t := 50) (cs := zr7) (fr := (0, 0)) (w := w5.setRow g zr7) (d := _) (v1 := .int .i64 0) (v2 := .int .i64 3) (hg := setRow_heap w5 g _ _ _ _ hz) (hu := rfl) (hd := rfl) (hi := rfl)
             refine bodyPost_ret_by (hr _ ?_ ?_ ?_) rfl (rdec_err hres.out (below_sr (show Below w.heap.size w w5 by rw [← HW.out.2]; exact H5.out.1.bel) (by rw [HW.out.2]; exact Nat.le_refl _) _))
             · rfl
             · rfl
             · rfl
           · rw [e00] at HDD
             have HDD := jI HDD
             go_wp2_with (first | (go_at_call 59; go_must (refine HDD.out.mono ?_; rintro y w5 ⟨rfl, hb⟩; have H5 := jI (jA (HI.out.2.1.call hb) hb); clear hb; have y0 : w5.cell? ⟨g + 3, 0, none⟩ = some (.int .u64 (nm1 : Int)) := (cell_of_row w5 (g + 3) 0 _ _ (0, 0) H5.out.1.a).trans rfl; have hz := H5.out.1.z)) | (refine wpList_store_row rfl 50 _ _ rfl g zr7 rfl rfl 50 _ hz rfl rfl zr7_one ?_))
             have hr := results_tcr (P := Tryz.prog) (fn := Tryz.f25) (a := 2) (p := 3) (u := 4) (ty := 50) rfl (g := g) (t := 50) (cs := zr7) (fr := (0, 0)) (w := w5.setRow g zr7) (d := _) (v1 := .int .i64 0) (v2 := .int .i64 3) (hg := setRow_heap w5 g _ _ _ _ hz) (hu := rfl) (hd := rfl) (hi := rfl)
             refine bodyPost_ret_by (hr _ ?_ ?_ ?_) rfl (rdec_err hres.out (below_sr (show Below w.heap.size w w5 by rw [← HW.out.2]; exact H5.out.1.bel) (by rw [HW.out.2]; exact Nat.le_refl _) _))
             · rfl
             · rfl
             · rfl
           · rw [e00] at HDD
             have HDD := jI HDD
             go_wp2_with (first | (go_at_call 59; go_must (refine HDD.out.mono ?_; rintro y w5 ⟨rfl, hb⟩; have H5 := jI (jA (HI.out.2.1.call hb) hb); clear hb; have y0 : w5.cell? ⟨g + 3, 0, none⟩ = some (.int .u64 0) := (cell_of_row w5 (g + 3) 0 _ _ (0, 0) H5.out.1.a).trans rfl; have hz := H5.out.1.z)) | (refine wpList_store_row rfl 50 _ _ rfl g zr7 rfl rfl 50 _ hz rfl rfl zr7_one ?_))
             have hr := results_tcr (P := Tryz.prog) (fn := Tryz.f25) (a := 2) (p := 3) (u := 4) (ty := 50) rfl (g := g) (t := 50) (cs := zr7) (fr := (0, 0)) (w := w5.setRow g zr7) (d := _) (v1 := .int .i64 0) (v2 := .int .i64 3) (hg := setRow_heap w5 g _ _ _ _ hz) (hu := rfl) (hd := rfl) (hi := rfl)
             refine bodyPost_ret_by (hr _ ?_ ?_ ?_) rfl (rdec_err hres.out (below_sr (show Below w.heap.size w w5 by rw [← HW.out.2]; exact H5.out.1.bel) (by rw [HW.out.2]; exact Nat.le_refl _) _))
             · rfl
             · rfl
             · rfl
           · rw [e00] at HDD
             have HDD := jI HDD
             go_upto_region 24 with (go_at_call 59; go_must (refine HDD.out.mono ?_; rintro y w5 ⟨rfl, hb⟩; have H5 := jI (jA (HI.out.2.1.call hb) hb); clear hb; have y0 : w5.cell? ⟨g + 3, 0, none⟩ = some (.int .u64 (nm1 : Int)) := (cell_of_row w5 (g + 3) 0 _ _ (0, 0) H5.out.1.a).trans rfl; have hz := H5.out.1.z))
             have hm5 := H5.out.1.m
             have HEN := jI (jA (HI.out.2.2.2.2.2.1.entsT (fun k => (k < Bd ∨ g + 4 ≤ k) ∧ k < wr.heap.size) (fun k hk hk2 => ⟨Or.inl hk, hk2⟩) (fun k hk hk2 => ⟨Or.inr (by have := HCB.out; omega), hk2⟩)) HI.out.2.2.2.2.2.2.fit)
             have CN : Calls Tryz.prog 45 #[.int .i64 1, .int .i64 2, .agg #[.int .i64 (nm2 : Int), .int .i64 (nm3 : Int), .int .i64 (nm4 : Int), .int .i64 (nm5 : Int), .slice Av j cv, .slice A1 mC c1, .slice Ay m7 cy], .int .i64 0] w5 fun y w' => y = .returned (.tuple #[.agg (cond false (corC ⟨(nm2 : Int), (nm3 : Int), ⟨(nm4 : Int), (nm5 : Int), es⟩, decC x6, x7⟩ ⟨Av, j, cv, A1, mC, c1, Ay, m7, cy, none, 0, 0, none, none, 0, 0⟩ 2) corZ), .int .i64 (cond false 0 1)]) ∧ Below w5.heap.size w5 w' := RNew_any ⟨(nm2 : Int), (nm3 : Int), ⟨(nm4 : Int), (nm5 : Int), es⟩, decC x6, x7⟩ ⟨Av, j, cv, A1, mC, c1, Ay, m7, cy, none, 0, 0, none, none, 0, 0⟩ w5 (⟨HEN.out.1.move (fun k hk hk2 => H5.out.2.block k hk2) (fun k hk => Nat.lt_of_lt_of_le hk.2 H5.out.2.size), HEN.out.2⟩) (by have := HA5.out; unfold inI; simp only; omega) (by have := HA5.out; unfold inI; simp only; omega) ⟨(RowT.kept HI.out.2.2.2.2.1 fun q hq hq2 => H5.out.2.block q hq2).mono fun q hq => by have h3 := HI.out.2.2.1; have h4 := H5.out.2.size; have h5 := hq.2; omega, decC_inI x6⟩ false HSB.out
             simp only [cond] at CN
             have CN := jI CN
             go_upto_region 25 with (first
               | (refine wpList_load_row rfl 50 _ rfl (g + 2) rfl 50 _ (0, 0) _ hm5 rfl rfl rfl ?_)
               | (refine wpList_store_row rfl 101 _ _ rfl w6.heap.size corZ rfl rfl 101 _ (heap_alloc_new w6 _) rfl rfl corZ_one ?_)
               | (go_at_call 45; go_must (refine CN.out.mono ?_; rintro y w6 ⟨rfl, hb⟩; have H6 := jI (jA (H5.out.1.call hb) hb); clear hb)))
             obtain ⟨W7, hW7⟩ : ∃ W, W = (w6.alloc (.cells #[.int .i64 0, .int .i64 0, .int .i64 0, .int .i64 0, .slice none 0 0, .slice none 0 0, .slice none 0 0, .int .i64 0, .int .i64 0, .int .i64 0, .int .i64 0, .int .i64 0, .int .i64 0, .int .i64 0, .int .i64 0, .slice none 0 0, .slice none 0 0, .int .i64 0, .slice none 0 0] 101)).setRow w6.heap.size corZ := ⟨_, rfl⟩
             rw [← hW7]
             have hb7 : Below w6.heap.size w6 W7 := by rw [hW7]; exact below_sr (below_alloc _ _) (Nat.le_refl _) _
             have H7 := jI (jA (H6.out.1.call hb7) (H5.out.2.trans ((H6.out.2.trans (hb7.mono H6.out.2.size)).mono H5.out.2.size)))
             clear hW7 hb7 hm5 CN hz y0
             have hz := H7.out.1.z
             go_wp2_with (refine wpList_store_row rfl 50 _ _ rfl g zr7 rfl rfl 50 _ hz rfl rfl zr7_one ?_)
             have hr := results_tcr (P := Tryz.prog) (fn := Tryz.f25) (a := 2) (p := 3) (u := 4) (ty := 50) rfl (g := g) (t := 50) (cs := zr7) (fr := (0, 0)) (w := W7.setRow g zr7) (d := _) (v1 := .int .i64 0) (v2 := .int .i64 3) (hg := setRow_heap W7 g _ _ _ _ hz) (hu := rfl) (hd := rfl) (hi := rfl)
             refine bodyPost_ret_by (hr _ ?_ ?_ ?_) rfl (rdec_err hres.out (below_sr (show Below w.heap.size w W7 by rw [← HW.out.2]; exact H7.out.1.bel) (by rw [HW.out.2]; exact Nat.le_refl _) _))
             · rfl
             · rfl
             · rfl
           · rw [e00] at HDD
             have HDD := jI HDD
             go_upto_region 24 with (go_at_call 59; go_must (refine HDD.out.mono ?_; rintro y w5 ⟨rfl, hb⟩; have H5 := jI (jA (HI.out.2.1.call hb) hb); clear hb; have y0 : w5.cell? ⟨g + 3, 0, none⟩ = some (.int .u64 (nm1 : Int)) := (cell_of_row w5 (g + 3) 0 _ _ (0, 0) H5.out.1.a).trans rfl; have hz := H5.out.1.z))
             have hm5 := H5.out.1.m
             have HEN := jI (jA (HI.out.2.2.2.2.2.1.entsT (fun k => (k < Bd ∨ g + 4 ≤ k) ∧ k < wr.heap.size) (fun k hk hk2 => ⟨Or.inl hk, hk2⟩) (fun k hk hk2 => ⟨Or.inr (by have := HCB.out; omega), hk2⟩)) HI.out.2.2.2.2.2.2.fit)
             have CN : Calls Tryz.prog 45 #[.int .i64 1, .int .i64 2, .agg #[.int .i64 (nm2 : Int), .int .i64 (nm3 : Int), .int .i64 (nm4 : Int), .int .i64 (nm5 : Int), .slice Av j cv, .slice A1 mC c1, .slice Ay m7 cy], .int .i64 0] w5 fun y w' => y = .returned (.tuple #[.agg (cond true (corC ⟨(nm2 : Int), (nm3 : Int), ⟨(nm4 : Int), (nm5 : Int), es⟩, decC x6, x7⟩ ⟨Av, j, cv, A1, mC, c1, Ay, m7, cy, none, 0, 0, none, none, 0, 0⟩ 2) corZ), .int .i64 (cond true 0 1)]) ∧ Below w5.heap.size w5 w' := RNew_any ⟨(nm2 : Int), (nm3 : Int), ⟨(nm4 : Int), (nm5 : Int), es⟩, decC x6, x7⟩ ⟨Av, j, cv, A1, mC, c1, Ay, m7, cy, none, 0, 0, none, none, 0, 0⟩ w5 (⟨HEN.out.1.move (fun k hk hk2 => H5.out.2.block k hk2) (fun k hk => Nat.lt_of_lt_of_le hk.2 H5.out.2.size), HEN.out.2⟩) (by have := HA5.out; unfold inI; simp only; omega) (by have := HA5.out; unfold inI; simp only; omega) ⟨(RowT.kept HI.out.2.2.2.2.1 fun q hq hq2 => H5.out.2.block q hq2).mono fun q hq => by have h3 := HI.out.2.2.1; have h4 := H5.out.2.size; have h5 := hq.2; omega, decC_inI x6⟩ true HSB.out
             simp only [cond] at CN
             have CN := jI CN
             go_upto_region 25 with (first
               | (refine wpList_load_row rfl 50 _ rfl (g + 2) rfl 50 _ (0, 0) _ hm5 rfl rfl rfl ?_)
               | (refine wpList_store_row rfl 101 _ _ rfl w6.heap.size (corC ⟨(nm2 : Int), (nm3 : Int), ⟨(nm4 : Int), (nm5 : Int), es⟩, decC x6, x7⟩ ⟨Av, j, cv, A1, mC, c1, Ay, m7, cy, none, 0, 0, none, none, 0, 0⟩ 2) rfl rfl 101 _ (heap_alloc_new w6 _) rfl rfl corC_one ?_)
               | (go_at_call 45; go_must (refine CN.out.mono ?_; rintro y w6 ⟨rfl, hb⟩; have H6 := jI (jA (H5.out.1.call hb) hb); clear hb)))
             obtain ⟨W7, hW7⟩ : ∃ W, W = (w6.alloc (.cells #[.int .i64 0, .int .i64 0, .int .i64 0, .int .i64 0, .slice none 0 0, .slice none 0 0, .slice none 0 0, .int .i64 0, .int .i64 0, .int .i64 0, .int .i64 0, .int .i64 0, .int .i64 0, .int .i64 0, .int .i64 0, .slice none 0 0, .slice none 0 0, .int .i64 0, .slice none 0 0] 101)).setRow w6.heap.size (corC ⟨(nm2 : Int), (nm3 : Int), ⟨(nm4 : Int), (nm5 : Int), es⟩, decC x6, x7⟩ ⟨Av, j, cv, A1, mC, c1, Ay, m7, cy, none, 0, 0, none, none, 0, 0⟩ 2) := ⟨_, rfl⟩
             rw [← hW7]
             have hb7 : Below w6.heap.size w6 W7 := by rw [hW7]; exact below_sr (below_alloc _ _) (Nat.le_refl _) _
             have H7 := jI (jA (H6.out.1.call hb7) (H5.out.2.trans ((H6.out.2.trans (hb7.mono H6.out.2.size)).mono H5.out.2.size)))
             clear hW7 hb7 hm5 CN hz y0
             obtain ⟨m0, m1, m2, m3, m4, m5, m6'⟩ := cells7 H7.out.1.m
             obtain ⟨q0, q1, q2, q3, q4, q5, q6⟩ := cells7 H7.out.1.z
             have fz0 := frozen_of_row W7 g 0 _ _ H7.out.1.z
             have fz1 := frozen_of_row W7 g 1 _ _ H7.out.1.z
             have fz2 := frozen_of_row W7 g 2 _ _ H7.out.1.z
             have fz3 := frozen_of_row W7 g 3 _ _ H7.out.1.z
             have fz4 := frozen_of_row W7 g 4 _ _ H7.out.1.z
             have fz5 := frozen_of_row W7 g 5 _ _ H7.out.1.z
             have fz6 := frozen_of_row W7 g 6 _ _ H7.out.1.z
             have y0 : W7.cell? ⟨g + 3, 0, none⟩ = some (.int .u64 (nm1 : Int)) := (cell_of_row W7 (g + 3) 0 _ _ (0, 0) H7.out.1.a).trans rfl
             go_upto_region 27 with fail
             go_region
             obtain ⟨F0, hF0, hrow, hbF, hoth, hsz⟩ := put7d (.int .i64 (nm2 : Int)) (.int .i64 (nm3 : Int)) (.int .i64 (nm4 : Int)) (.int .i64 (nm5 : Int)) (.slice Av j cv) (.slice A1 mC c1) (.slice Ay m7 cy) H7.out.1.z
             rw [← hF0]
             clear hF0
             obtain ⟨F, hF⟩ : ∃ F, F = F0.drew := ⟨_, rfl⟩
             rw [← hF]
             replace hrow : F.heap[g]? = some (.cells #[.int .i64 (nm2 : Int), .int .i64 (nm3 : Int), .int .i64 (nm4 : Int), .int .i64 (nm5 : Int), .slice Av j cv, .slice A1 mC c1, .slice Ay m7 cy] 50 (0, 0)) := by rw [hF]; exact hrow
             replace hoth : ∀ k, k ≠ g → F.heap[k]? = W7.heap[k]? := by rw [hF]; exact hoth
             replace hsz : F.heap.size = W7.heap.size := by rw [hF]; exact hsz
             replace hbF : Below g W7 F := by rw [hF]; exact hbF.drew
             clear hF
             go_wp2_with fail
             have hRw : Rws F (RTd Bd w F) ⟨(nm2 : Int), (nm3 : Int), ⟨(nm4 : Int), (nm5 : Int), es⟩, decC x6, x7⟩ ⟨Av, j, cv, A1, mC, c1, Ay, m7, cy, none, 0, 0, none, none, 0, 0⟩ := by
               have hg := HW.out.2
               have hs7 := H7.out.2.size
               refine ⟨HEN.out.1.move (fun k hk hk2 => (hoth k (by have := hk.1; omega)).trans (H7.out.2.block k hk2)) (fun k hk => ⟨by have := hk.1; omega, by have := hk.2; omega⟩), (RowT.kept HI.out.2.2.2.2.1 fun q hq hq2 => (hoth q (by have := hq.1; omega)).trans (H7.out.2.block q hq2)).mono fun q hq => ⟨by have := hq.1; omega, by have h3 := HI.out.2.2.1; have h5 := hq.2; omega⟩, (SlT.kept HI.out.2.2.2.1.toT (fun k hk hk2 => (hoth k (by have hk' : k < Bd := hk; omega)).trans (H7.out.2.block k hk2))).mono fun k hk => ⟨Or.inl hk, by have hk' : k < Bd := hk; have h4 := H7.out.1.lt; omega⟩⟩
             have hBl : Below w.heap.size w F := by have := H7.out.1.bel.trans hbF; rw [← HW.out.2]; exact this
             have hr := results_tcr (P := Tryz.prog) (fn := Tryz.f25) (a := 2) (p := 3) (u := 4) (ty := 50) rfl (g := g) (t := 50) (cs := #[.int .i64 (nm2 : Int), .int .i64 (nm3 : Int), .int .i64 (nm4 : Int), .int .i64 (nm5 : Int), .slice Av j cv, .slice A1 mC c1, .slice Ay m7 cy]) (fr := (0, 0)) (w := F) (d := _) (v1 := .int .i64 (nm1 : Int)) (v2 := .int .i64 0) (hg := hrow) (hu := rfl) (hd := rfl) (hi := rfl)
             refine bodyPost_ret_by (hr _ ?_ ?_ ?_) rfl (rdec_ok (q := ⟨Av, j, cv, A1, mC, c1, Ay, m7, cy, none, 0, 0, none, none, 0, 0⟩) hres.out hRw ⟨HEN.out.2, decC_inI x6⟩ hBl)
             · rfl
             · rfl
             · rfl
end
end Go.Proofs.YtncaefocijainaaGreatDoor.pk
