/-
  The document's disk: a write laid behind; all made safe.
-/
import Derived.Test.YtlhagbcomnjnoaaDoorRefStep
import Derived.ArgAppend
import Derived.Deep.AppendLies
namespace Go.Proofs.YtlhagbcomnjnoaaDoor.pk
open Go Go.RowKit
set_option maxRecDepth 100000

/-- What was there, and what has been made since. -/
def Tn (T : Nat → Prop) (w w' : World) : Nat → Prop := fun k => T k ∨ (w.heap.size ≤ k ∧ k < w'.heap.size)
theorem WrsT.mono {w : World} {T T' : Nat → Prop} {v : Value} {L : List (Nat × List UInt8)} (h : WrsT w T v L) (ht : ∀ k, T k → T' k) : WrsT w T' v L := by
  obtain ⟨cs, h1, h1c, h2⟩ := h
  refine ⟨cs, h1.mono ht, h1c, fun j hj => ?_⟩
  obtain ⟨a, u, hu, hs⟩ := h2 j hj
  exact ⟨a, u, hu, hs.mono ht⟩
theorem WrsT.below {w w' : World} {T : Nat → Prop} {v : Value} {L : List (Nat × List UInt8)} (h : WrsT w T v L) (hb : Below w.heap.size w w') : WrsT w' T v L := by
  obtain ⟨cs, h1, h1c, h2⟩ := h
  refine ⟨cs, h1.kept fun k _ hk => hb.block k hk, h1c, fun j hj => ?_⟩
  obtain ⟨a, u, hu, hs⟩ := h2 j hj
  exact ⟨a, u, hu, hs.kept fun k _ hk => hb.block k hk⟩
theorem SlT.below {w w' : World} {T : Nat → Prop} {v : Value} {bs : List UInt8} (h : SlT w T v bs) (hb : Below w.heap.size w w') : SlT w' T v bs := h.kept fun k _ hk => hb.block k hk
theorem RD.mono {w : World} {T T' : Nat → Prop} {vB vL : Value} {d : Dk} (h : RD w T vB vL d) (ht : ∀ k, T k → T' k) : RD w T' vB vL d := ⟨h.b.mono ht, h.l.mono ht, h.ok, h.one, h.big, h.few, h.arm⟩

/-- One write more. -/
theorem WrsT.snoc {w : World} {T : Nat → Prop} {base e : Nat} {v : Value} {cs : List Value} {L : List (Nat × List UInt8)} {q : Nat} {u : Value} {x : List UInt8}
    (hown : w.ownsRow base e 2 v (L.length + 1) (cs ++ [.int .i64 (q : Int), u])) (hT : ∀ g, v.ownBlock = some g → T g) (hcs : cs.length = L.length * 2) (h1c : ∀ z ∈ cs, z.oneCell' = true) (hu1 : u.oneCell' = true)
    (hL : ∀ j (h : j < L.length), cs[j * 2]? = some (.int .i64 (L[j].1 : Int)) ∧ ∃ u, cs[j * 2 + 1]? = some u ∧ SlT w T u L[j].2) (hx : SlT w T u x) : WrsT w T v (L ++ [(q, x)]) := by
  refine ⟨cs ++ [.int .i64 (q : Int), u], ?_, ?_, ?_⟩
  · rw [List.length_append, List.length_singleton]
    exact RowT.of_own hown T hT
  · intro z hz
    rcases List.mem_append.1 hz with hz | hz
    · exact h1c z hz
    · rcases List.mem_cons.1 hz with rfl | hz
      · rfl
      · obtain rfl := List.mem_singleton.1 hz
        exact hu1
  · intro j hj
    rw [List.length_append, List.length_singleton] at hj
    by_cases hjl : j < L.length
    · obtain ⟨h0, u', hu', hs⟩ := hL j hjl
      rw [List.getElem_append_left hjl, List.getElem?_append_left (by omega), List.getElem?_append_left (by omega)]
      exact ⟨h0, u', hu', hs⟩
    · obtain rfl : j = L.length := by omega
      rw [List.getElem_append_right (Nat.le_refl _)]
      simp only [Nat.sub_self, List.getElem_cons_zero]
      rw [List.getElem?_append_right (by omega), List.getElem?_append_right (by omega), hcs]
      exact ⟨by simp, u, by simp [Nat.add_sub_cancel_left], hx⟩

theorem own_at {w w' : World} {base e sz n : Nat} {v : Value} {xs : List Value} (h : w.ownsRow base e sz v n xs) (hk : ∀ g, v.ownBlock = some g → w'.heap[g]? = w.heap[g]?) : w'.ownsRow base e sz v n xs := by
  refine ⟨h.1, ?_⟩
  rcases h.2 with h2 | ⟨g, cap, cur, rfl, hb, hg, hr⟩
  · exact Or.inl h2
  · exact Or.inr ⟨g, cap, cur, rfl, hb, (hk g rfl).trans hg, hr⟩
theorem lit_cells (w : World) (t : Nat) (cs : List Value) (fz : Nat × Nat) : ∀ j u, cs[j]? = some u → (w.alloc (.cells cs.toArray t fz)).cell? ((⟨w.heap.size, 0, none⟩ : Addr).add j) = some u := by
  intro j u hj
  rw [Lib.add_plain, cell_of_row _ w.heap.size _ _ _ fz (heap_alloc_new w _)]
  simpa using hj
theorem row_none {w : World} {T : Nat → Prop} {A : Option Addr} {n c m sz : Nat} {cs : List Value} (h : RowT w T sz (.slice A n c) m cs) : A = none → n = 0 ∧ n = 0 := by
  intro hA
  obtain ⟨_, A', c', hv, _, _, h3⟩ := h
  injection hv with e1 e2 _
  rcases h3 with h3 | ⟨b, off, hb, _⟩
  · omega
  · rw [← e1, hA] at hb; cases hb
theorem row_cells {w W : World} {T : Nat → Prop} {A : Option Addr} {n c m sz : Nat} {cs : List Value} (h : RowT w T sz (.slice A n c) m cs) (hW : Below w.heap.size w W) :
    ∀ b, A = some b → ∀ j u, cs[j]? = some u → W.cell? (b.add j) = some u := by
  intro b hb j u hj
  obtain ⟨h0, A', c', hv, _, _, h3⟩ := h
  injection hv with e1 e2 _
  rcases h3 with h3 | ⟨b', off, hb', _, hc⟩
  · subst h3
    have : cs = [] := List.eq_nil_of_length_eq_zero (by simpa using h0)
    rw [this] at hj; simp at hj
  · rw [← e1, hb] at hb'
    injection hb' with hb'
    subst hb'
    rw [Lib.add_plain]
    have := hc j u hj
    exact (hW.cell (p := ⟨b', off + j, none⟩) (World.block_lt_of_cell? w _ this)).trans this

theorem stepD_arm {d : Dk} (h : inJ d.armed) : inJ (stepD d).armed := by
  obtain ⟨h1, h2⟩ := h
  unfold stepD inJ
  by_cases hz : d.armed = 0
  · rw [if_pos hz]; exact ⟨by show (-1 : Int) ≤ -1; omega, by show (-1 : Int) ≤ _; omega⟩
  · rw [if_neg hz]
    by_cases hp : 0 < d.armed
    · rw [if_pos hp]; exact ⟨by show -1 ≤ d.armed - 1; omega, by show d.armed - 1 ≤ _; omega⟩
    · rw [if_neg hp]; exact ⟨h1, h2⟩
/-- A write's row of the table of types. -/
theorem info_wr : (Tryd.prog.info? 89).map (fun i => (i.zero, i.size, i.bytes)) = some (some (.agg #[.int .i64 0, .slice none 0 0]), 2, 32) := by kernel_rfl

set_option maxHeartbeats 2000000 in
theorem RefPut_any (vB vL : Value) (d : Dk) (at_ : Int) (Ax : Option Addr) (nx cx : Nat) (x : List UInt8) (w : World) (T : Nat → Prop) (h : RD w T vB vL d) (ha : inI at_) (hx : SlT w T (.slice Ax nx cx) x) (hfew : d.L.length < 99999) :
    Calls Tryd.prog 32 #[rdv vB vL d, .int .i64 at_, .slice Ax nx cx] w fun r w' => ∃ vL', r = .returned (.tuple #[rdv vB vL' (putD d at_ x), .int .i64 (putE d at_ x : Int)]) ∧ RD w' (Tn T w w') vB vL' (putD d at_ x) ∧ Below w.heap.size w w' := by
  obtain ⟨i0, hi, hz0, hz1, hz2⟩ := info_parts info_wr
  have hres : Tryd.f32.results = #[.cell 6 41, .tmp 7] := by kernel_rfl
  obtain ⟨nB, hnB⟩ : ∃ nB, nB = d.B.length := ⟨_, rfl⟩
  obtain ⟨nL, hnL⟩ : ∃ nL, nL = d.L.length := ⟨_, rfl⟩
  obtain ⟨AB, cB, rfl, hB1, hB2, hsB⟩ := h.b.named hnB
  obtain ⟨AL, cL, hvL, hL1, hL2⟩ := h.l.form
  rw [← hnL] at hvL hL1
  subst hvL
  have hnx : nx = x.length := hx.sl.len.1
  obtain ⟨W1, hW1⟩ : ∃ W1, W1 = w.alloc (.cells #[.slice AB nB cB, .slice AL nL cL, .int .i64 d.armed, .bool d.off] 41) := ⟨_, rfl⟩
  have hb1 : Below w.heap.size w W1 := by rw [hW1]; exact (Below.refl _ _).alloc (Nat.le_refl _) _
  have hs1 : W1.heap.size = w.heap.size + 1 := by rw [hW1, World.size_alloc]
  have h1 := h.below hb1
  have hc : ∀ j v, (#[.slice AB nB cB, .slice AL nL cL, .int .i64 d.armed, .bool d.off] : Array Value)[j]? = some v → W1.cell? ⟨w.heap.size, j, none⟩ = some v := by
    intro j v hj
    rw [hW1, cell_of_row _ w.heap.size _ _ _ (0, 0) (heap_alloc_new w _)]
    exact hj
  have hfz : ∀ j, W1.frozen? ⟨w.heap.size, j, none⟩ = false := by intro j; rw [hW1]; exact frozen_of_row _ w.heap.size j _ _ (heap_alloc_new w _)
  have hx1 := hx.below hb1
  obtain ⟨W2, hW2⟩ : ∃ W2, W2 = W1.alloc (.cells #[.slice none 0 0, .slice none 0 0, .int .i64 0, .bool false] 41) := ⟨_, rfl⟩
  have hb2 : Below W1.heap.size W1 W2 := by rw [hW2]; exact (Below.refl _ _).alloc (Nat.le_refl _) _
  have hs2 : W2.heap.size = w.heap.size + 2 := by rw [hW2, World.size_alloc, hs1]
  have hc2 : ∀ j v, (#[.slice AB nB cB, .slice AL nL cL, .int .i64 d.armed, .bool d.off] : Array Value)[j]? = some v → ∀ W, Below W2.heap.size W2 W → W.cell? ⟨w.heap.size, j, none⟩ = some v := fun j v hj W hW =>
    (hW.cell (p := ⟨w.heap.size, j, none⟩) (by show w.heap.size < W2.heap.size; omega)).trans ((hb2.cell (p := ⟨w.heap.size, j, none⟩) (by show w.heap.size < W1.heap.size; omega)).trans (hc j v hj))
  have hf2 : ∀ j W, Below W2.heap.size W2 W → W.frozen? ⟨w.heap.size, j, none⟩ = false := fun j W hW =>
    (hW.frozen (p := ⟨w.heap.size, j, none⟩) (by show w.heap.size < W2.heap.size; omega)).trans ((hb2.frozen (p := ⟨w.heap.size, j, none⟩) (by show w.heap.size < W1.heap.size; omega)).trans (hfz j))
  have hr2 : ∀ j v, (#[.slice none 0 0, .slice none 0 0, .int .i64 0, .bool false] : Array Value)[j]? = some v → ∀ W, Below W2.heap.size W2 W → W.cell? ⟨w.heap.size + 1, j, none⟩ = some v ∧ W.frozen? ⟨w.heap.size + 1, j, none⟩ = false := by
    intro j v hj W hW
    rw [hW.cell (p := ⟨w.heap.size + 1, j, none⟩) (by show w.heap.size + 1 < W2.heap.size; omega), hW.frozen (p := ⟨w.heap.size + 1, j, none⟩) (by show w.heap.size + 1 < W2.heap.size; omega), ← hs1, hW2, cell_of_row _ W1.heap.size _ _ _ (0, 0) (heap_alloc_new W1 _)]
    exact ⟨hj, frozen_of_row _ W1.heap.size j _ _ (heap_alloc_new W1 _)⟩
  have h2 := h1.below hb2
  have hx2 := hx1.below hb2
  have hb12 : Below w.heap.size w W2 := hb1.trans (hb2.mono (by omega))
  have HR := Lib.hid h2
  have HX := Lib.hid hx2
  have HB1 := Lib.hid hb12
  have HC := Lib.hid (And.intro hc2 (And.intro hf2 hr2))
  have HS1 := Lib.hid hs2
  have HNL := Lib.hid hnL
  have HNX := Lib.hid hnx
  have hcall := RefBad_any _ _ d at_ (nx : Int) W2 T h2 ha.2 (by omega)
  unfold rdv at hcall ⊢
  rw [show badE d at_ (nx : Int) = badE d at_ (x.length : Int) by rw [hnx]] at hcall
  have hpe : putE d at_ x = if badE d at_ x.length = 0 then stepE d else badE d at_ x.length := rfl
  have hpd : putD d at_ x = if badE d at_ x.length = 0 then stepD { d with L := d.L ++ [(at_.toNat, x)] } else d := rfl
  have q0 := hc2 0 _ rfl W2 (Below.refl _ _)
  have q1 := hc2 1 _ rfl W2 (Below.refl _ _)
  have q2 := hc2 2 _ rfl W2 (Below.refl _ _)
  have q3 := hc2 3 _ rfl W2 (Below.refl _ _)
  have hin := @badE_in d at_ x.length
  obtain ⟨e, he⟩ : ∃ e, e = badE d at_ x.length := ⟨_, rfl⟩
  rw [← he] at hcall hpe hpd hin
  have HCALL := Lib.hid hcall
  have hfL : (nL : Int) < 99999 := by omega
  have HW0 := Lib.hid (And.intro h hx)
  have HI := Lib.hid (And.intro ha hfew)
  have harm := HR.out.arm
  have HARM := Lib.hid harm
  clear h h1 h2 hx hx1 hx2 hb1 hb2 hb12 hc hc2 hfz hf2 hr2 hs1 hs2 hnx hcall he hL2 hB2 hsB hB1 harm hnB hnL
  have hL1I : (nL : Int) ≤ (cL : Int) := by omega
  by_cases he0 : e = 0
  · subst he0
    rw [if_pos rfl] at hpe hpd
    obtain ⟨g1, g2, g3, g4, g5⟩ := hin rfl
    obtain ⟨q, rfl⟩ : ∃ q : Nat, at_ = (q : Int) := ⟨at_.toNat, by omega⟩
    have hqt : (q : Int).toNat = q := by omega
    rw [hqt] at hpd
    have HP := Lib.hid (And.intro hpe hpd)
    have HG := Lib.hid (And.intro g3 g4)
    have iq : (q : Int) ≤ 9223372036854775807 := ha.2
    clear hpe hpd hin g1 g2 g3 g4 g5 hqt ha hfew
    rw [show ((0 : Nat) : Int) = 0 from rfl] at HCALL
    go_enter Tryd.func32, Tryd.ntmps32
    go_upto_region 1 with fail
    rw [← hW1, ← hW2]
    clear hW1 hW2
    go_upto_region 4 with (go_at_call 33; go_must (refine HCALL.out.mono ?_; rintro y w3 ⟨rfl, hb3⟩; have HB3 := Lib.hid hb3; clear hb3))
    clear q0 q1 q2 q3
    have q0 := HC.out.1 0 _ rfl w3 HB3.out
    have q1 := HC.out.1 1 _ rfl w3 HB3.out
    have q2 := HC.out.1 2 _ rfl w3 HB3.out
    have q3 := HC.out.1 3 _ rfl w3 HB3.out
    obtain ⟨cs, hrow, h1c, hels⟩ := HW0.out.1.l
    have hcl : cs.length = d.L.length * 2 := hrow.1
    have HROW := Lib.hid (And.intro hrow (And.intro h1c (And.intro hels hcl)))
    clear hrow h1c hels hcl
    go_upto_region 5 with (at_builtin; go_must (refine wpList_append_grows _ rfl _ _ 39 rfl 89 i0 _ 2 32 Tryd.underlying39 hi hz0 hz1 hz2 rfl (by decide) AL nL nL cs rfl (row_none HROW.out.1) (by have := HROW.out.2.2.2; have := HNL.out; omega) (row_cells HROW.out.1 ((HB1.out.trans (HB3.out.mono HB1.out.size)).alloc (by have := HB1.out.size; have := HB3.out.size; omega) _)) ⟨w3.heap.size, 0, none⟩ 1 1 [.int .i64 (q : Int), .slice Ax nx cx] rfl rfl (lit_cells w3 _ [.int .i64 (q : Int), .slice Ax nx cx] (0, 0)) (by simp [Value.oneCell']) (by omega) (by unfold maxLen; omega) (by omega) ?_; intro v5 w5 hown5 hg5; obtain ⟨g5, cap5, rfl, hcp1, hcp2⟩ := hown5.form (by omega); clear hcp1 hcp2; have HB5 := Lib.hid ((HB3.out.alloc HB3.out.size (.cells #[.int .i64 (q : Int), .slice Ax nx cx] 89)).grown hg5 (by rw [World.size_alloc]; have := HB3.out.size; omega) (fun k hk => by cases hk)); have HO5 := Lib.hid hown5; have p1 := HC.out.1 1 _ rfl w5 HB5.out; have f1 := HC.out.2.1 1 w5 HB5.out; clear hown5 hg5))
    obtain ⟨W6, hW6⟩ : ∃ W6, W6 = w5.setCell ⟨w.heap.size, 1, none⟩ (.slice (some ⟨g5, 0, none⟩) (nL + 1) cap5) := ⟨_, rfl⟩
    rw [← hW6]
    have hs6 : W6.heap.size = w5.heap.size := by rw [hW6]; simp [World.setCell]
    have hb6 : Below w.heap.size w W6 := by rw [hW6]; exact (HB1.out.trans (HB5.out.mono HB1.out.size)).setCell (Nat.le_refl _) _
    have hbox : ∀ j v, (#[.slice AB nB cB, .slice (some ⟨g5, 0, none⟩) (nL + 1) cap5, .int .i64 d.armed, .bool d.off] : Array Value)[j]? = some v → W6.cell? ⟨w.heap.size, j, none⟩ = some v := by
      intro j v hj
      match j, hj with
      | 0, hj => rw [hW6, World.cell?_setCell_other _ _ _ _ (by simp), HC.out.1 0 _ rfl w5 HB5.out]; exact hj
      | 1, hj => rw [hW6, World.cell?_setCell_same' _ _ _ (by rw [p1]; rfl)]; exact hj
      | 2, hj => rw [hW6, World.cell?_setCell_other _ _ _ _ (by simp), HC.out.1 2 _ rfl w5 HB5.out]; exact hj
      | 3, hj => rw [hW6, World.cell?_setCell_other _ _ _ _ (by simp), HC.out.1 3 _ rfl w5 HB5.out]; exact hj
    have hrv : ∀ j v, (#[.slice none 0 0, .slice none 0 0, .int .i64 0, .bool false] : Array Value)[j]? = some v → ∀ W, Below W6.heap.size W6 W → W.cell? ⟨w.heap.size + 1, j, none⟩ = some v ∧ W.frozen? ⟨w.heap.size + 1, j, none⟩ = false := by
      intro j v hj W hW
      have hlt : w.heap.size + 1 < W6.heap.size := by have := HS1.out; have := HB5.out.size; omega
      rw [hW.cell (p := ⟨w.heap.size + 1, j, none⟩) hlt, hW.frozen (p := ⟨w.heap.size + 1, j, none⟩) hlt, hW6, World.cell?_setCell_other _ _ _ _ (by simp), World.frozen?_setCell]
      exact HC.out.2.2 j v hj w5 HB5.out
    have hst := RefStep_any AB (some ⟨g5, 0, none⟩) nB cB (nL + 1) cap5 { d with L := d.L ++ [(q, x)] } W6 HARM.out
    have hst' : Calls Tryd.prog 39 #[.agg #[.slice AB nB cB, .slice (some ⟨g5, 0, none⟩) (nL + 1) cap5, .int .i64 d.armed, .bool d.off]] W6 fun x_1 w' => x_1 = .returned (.tuple #[.agg #[.slice AB nB cB, .slice (some ⟨g5, 0, none⟩) (nL + 1) cap5, .int .i64 (putD d (q : Int) x).armed, .bool (putD d (q : Int) x).off], .int .i64 (putE d (q : Int) x : Int)]) ∧ Below W6.heap.size W6 w' := by
      rw [HP.out.1, HP.out.2]
      exact hst
    have HST := Lib.hid hst'
    have q0 := hbox 0 _ rfl
    have q1 := hbox 1 _ rfl
    have q2 := hbox 2 _ rfl
    have q3 := hbox 3 _ rfl
    have HB6 := Lib.hid hb6
    have HRV := Lib.hid hrv
    have HW6 := Lib.hid hW6
    clear hst hst' hbox hrv hb6 hW6 p1 f1 hs6
    generalize hra : (putD d (q : Int) x).armed = ra at HST
    generalize hro : (putD d (q : Int) x).off = ro at HST
    generalize hre : putE d (q : Int) x = re at HST
    have HRE := Lib.hid (And.intro hra (And.intro hro hre))
    clear hra hro hre
    go_wp2_with (go_at_call 39; go_must (refine HST.out.mono ?_; rintro y w7 ⟨rfl, hb7⟩; obtain ⟨r0, f0⟩ := HRV.out 0 _ rfl w7 hb7; obtain ⟨r1, f1⟩ := HRV.out 1 _ rfl w7 hb7; obtain ⟨r2, f2⟩ := HRV.out 2 _ rfl w7 hb7; obtain ⟨r3, f3⟩ := HRV.out 3 _ rfl w7 hb7; have HB7 := Lib.hid hb7; clear hb7))
    obtain ⟨WF, hWF⟩ : ∃ WF, WF = (((w7.setCell ⟨w.heap.size + 1, 0, none⟩ (.slice AB nB cB)).setCell ⟨w.heap.size + 1, 1, none⟩ (.slice (some ⟨g5, 0, none⟩) (nL + 1) cap5)).setCell ⟨w.heap.size + 1, 2, none⟩ (.int .i64 ra)).setCell ⟨w.heap.size + 1, 3, none⟩ (.bool ro) := ⟨_, rfl⟩
    have hsF : WF.heap.size = w7.heap.size := by rw [hWF]; simp [World.setCell]
    have hkF : ∀ k, k ≠ w.heap.size → k ≠ w.heap.size + 1 → k < w5.heap.size → WF.heap[k]? = w5.heap[k]? := by
      intro k h0 h1 h2
      have hs6 : W6.heap.size = w5.heap.size := by rw [HW6.out]; simp [World.setCell]
      rw [hWF, Below.heap_setCell _ _ _ _ h1, Below.heap_setCell _ _ _ _ h1, Below.heap_setCell _ _ _ _ h1, Below.heap_setCell _ _ _ _ h1, HB7.out.block k (by omega), HW6.out, Below.heap_setCell _ _ _ _ h0]
    have hbF : Below w.heap.size w WF := by
      rw [hWF]
      exact ((((HB6.out.trans (HB7.out.mono HB6.out.size)).setCell (Nat.le_succ _) _).setCell (Nat.le_succ _) _).setCell (Nat.le_succ _) _).setCell (Nat.le_succ _) _
    have hown : WF.ownsRow (w3.alloc (.cells #[.int .i64 (q : Int), .slice Ax nx cx] 89)).heap.size 89 2 (.slice (some ⟨g5, 0, none⟩) (nL + 1) cap5) (d.L.length + 1) (cs ++ [.int .i64 (q : Int), .slice Ax nx cx]) := by
      rw [← HNL.out]
      refine own_at HO5.out fun g hg => ?_
      have := HO5.out.lt g hg
      have h2 := HS1.out
      have h3 := HB3.out.size
      rw [World.size_alloc] at this
      exact hkF g (by omega) (by omega) this.2
    have hTn : ∀ k, k < w.heap.size → T k → Tn T w WF k := fun k _ hk => Or.inl hk
    have hx1 : SlT WF (Tn T w WF) (.slice Ax nx cx) x := (HW0.out.2.kept fun k _ hk => hbF.block k hk).mono fun k hk => Or.inl hk
    have hlst : WrsT WF (Tn T w WF) (.slice (some ⟨g5, 0, none⟩) (nL + 1) cap5) (d.L ++ [(q, x)]) := by
      refine WrsT.snoc (u := .slice Ax nx cx) (by rw [← HNL.out] at hown ⊢; exact hown) (fun g hg => Or.inr ?_) HROW.out.2.2.2 HROW.out.2.1 rfl (fun j hj => ?_) hx1
      · have := hown.lt g hg
        have h2 := HS1.out
        have h3 := HB3.out.size
        rw [World.size_alloc] at this
        exact ⟨by omega, this.2⟩
      · obtain ⟨h0, u, hu, hs⟩ := HROW.out.2.2.1 j hj
        exact ⟨h0, u, hu, (hs.kept fun k _ hk => hbF.block k hk).mono fun k hk => Or.inl hk⟩
    have hpd := HP.out.2
    have hstL := stepD_L { d with L := d.L ++ [(q, x)] }
    have hRD : RD WF (Tn T w WF) (.slice AB nB cB) (.slice (some ⟨g5, 0, none⟩) (nL + 1) cap5) (putD d (q : Int) x) := by
      refine ⟨?_, ?_, putD_ok HW0.out.1.ok _ _, ?_, ?_, ?_, ?_⟩
      · rw [hpd, hstL.2]; exact (HW0.out.1.b.kept fun k _ hk => hbF.block k hk).mono fun k hk => Or.inl hk
      · rw [hpd, hstL.1]; exact hlst
      · rw [putD_len]; exact HW0.out.1.one
      · rw [putD_len]; exact HW0.out.1.big
      · have := putD_lenL d (q : Int) x; have := HI.out.2; omega
      · rw [hpd]; exact stepD_arm HARM.out
    have HRD := Lib.hid hRD
    have HBF := Lib.hid hbF
    have HWF := Lib.hid hWF
    clear hsF hkF hbF hown hTn hx1 hlst hpd hstL hRD hWF
    refine bodyPost_ret (v := .tuple #[.agg #[.slice AB nB cB, .slice (some ⟨g5, 0, none⟩) (nL + 1) cap5, .int .i64 ra, .bool ro], .int .i64 (re : Int)]) ?_ rfl ⟨.slice (some ⟨g5, 0, none⟩) (nL + 1) cap5, by rw [HRE.out.1, HRE.out.2.1, HRE.out.2.2], ?_, ?_⟩
    · simp only [results, hres]
      go_simp
    · rw [← HWF.out]; exact HRD.out
    · rw [← HWF.out]; exact HBF.out
  · rw [if_neg he0] at hpe hpd
    have heI : ¬ (e : Int) = 0 := by omega
    have heB : ((e : Int) == 0) = false := by rw [beq_eq_false_iff_ne]; exact heI
    have heN : ((e : Int) != 0) = true := by rw [bne_iff_ne]; exact heI
    have HP := Lib.hid (And.intro hpe hpd)
    clear hpe hpd hin he0 ha hfew
    go_enter Tryd.func32, Tryd.ntmps32
    go_upto_region 1 with fail
    rw [← hW1, ← hW2]
    clear hW1 hW2
    go_upto_region 2 with (go_at_call 33; go_must (refine HCALL.out.mono ?_; rintro y w3 ⟨rfl, hb3⟩; have HB3 := Lib.hid hb3; clear hb3))
    clear q0 q1 q2 q3
    have q0 := HC.out.1 0 _ rfl w3 HB3.out
    have q1 := HC.out.1 1 _ rfl w3 HB3.out
    have q2 := HC.out.1 2 _ rfl w3 HB3.out
    have q3 := HC.out.1 3 _ rfl w3 HB3.out
    obtain ⟨r0, f0⟩ := HC.out.2.2 0 _ rfl w3 HB3.out
    obtain ⟨r1, f1⟩ := HC.out.2.2 1 _ rfl w3 HB3.out
    obtain ⟨r2, f2⟩ := HC.out.2.2 2 _ rfl w3 HB3.out
    obtain ⟨r3, f3⟩ := HC.out.2.2 3 _ rfl w3 HB3.out
    go_wp2_with fail
    obtain ⟨WF, hWF⟩ : ∃ WF, WF = (((w3.setCell ⟨w.heap.size + 1, 0, none⟩ (.slice AB nB cB)).setCell ⟨w.heap.size + 1, 1, none⟩ (.slice AL nL cL)).setCell ⟨w.heap.size + 1, 2, none⟩ (.int .i64 d.armed)).setCell ⟨w.heap.size + 1, 3, none⟩ (.bool d.off) := ⟨_, rfl⟩
    have hbF : Below w.heap.size w WF := by
      rw [hWF]
      exact ((((HB1.out.trans (HB3.out.mono HB1.out.size)).setCell (Nat.le_succ _) _).setCell (Nat.le_succ _) _).setCell (Nat.le_succ _) _).setCell (Nat.le_succ _) _
    have HBF := Lib.hid hbF
    have HWF := Lib.hid hWF
    clear hbF hWF
    refine bodyPost_ret (v := .tuple #[.agg #[.slice AB nB cB, .slice AL nL cL, .int .i64 d.armed, .bool d.off], .int .i64 (e : Int)]) ?_ rfl ⟨.slice AL nL cL, by rw [HP.out.1, HP.out.2], ?_, ?_⟩
    · simp only [results, hres]
      go_simp
    · rw [← HWF.out, HP.out.2]; exact (HW0.out.1.below HBF.out).mono fun k hk => Or.inl hk
    · rw [← HWF.out]; exact HBF.out

end Go.Proofs.YtlhagbcomnjnoaaDoor.pk
