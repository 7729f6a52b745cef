/-
  The document's disk: the power back.
-/
import Derived.Test.YtlhagbcomnjnoaaDoorRefStart
namespace Go.Proofs.YtlhagbcomnjnoaaDoor.pk
open Go Go.RowKit
set_option maxRecDepth 100000

theorem SlT.here {w : World} {T : Nat → Prop} {v : Value} {bs : List UInt8} (h : SlT w T v bs) : SlT w (fun k => T k ∧ k < w.heap.size) v bs := by
  obtain ⟨A, c, rfl, h1, h2, h3⟩ := h
  refine ⟨A, c, rfl, h1, h2, ?_⟩
  rcases h3 with h3 | ⟨b, off, rfl, hb, hc⟩
  · exact Or.inl h3
  · by_cases h0 : bs = []
    · exact Or.inl h0
    · exact Or.inr ⟨b, off, rfl, ⟨hb, World.block_lt_of_cell? w _ (hc 0 (List.length_pos_iff.2 h0))⟩, hc⟩
theorem WrsT.kept {w w' : World} {T : Nat → Prop} {v : Value} {L : List (Nat × List UInt8)} (h : WrsT w T v L) (hk : ∀ k, T k → k < w.heap.size → w'.heap[k]? = w.heap[k]?) : WrsT w' T v L := by
  obtain ⟨cs, h1, h1c, h2⟩ := h
  refine ⟨cs, h1.kept hk, h1c, fun j hj => ?_⟩
  obtain ⟨a, u, hu, hs⟩ := h2 j hj
  exact ⟨a, u, hu, hs.kept hk⟩
theorem SlT.oneCell {w : World} {T : Nat → Prop} {v : Value} {bs : List UInt8} (h : SlT w T v bs) : v.oneCell' = true := by
  obtain ⟨_, _, rfl, _⟩ := h
  rfl

set_option maxHeartbeats 4000000 in
theorem RefStart_any (vB vL : Value) (d : Dk) (A : Option Addr) (n c : Nat) (keep : List Int) (w : World) (T : Nat → Prop) (h : RD w T vB vL d) (hk : IntsT w T (.slice A n c) keep) :
    Calls Tryd.prog 31 #[rdv vB vL d, .slice A n c] w fun r w' => ∃ vB', r = .returned (rdv vB' (.slice none 0 0) (startD d keep)) ∧ RD w' (Tn T w w') vB' (.slice none 0 0) (startD d keep) ∧ Below w.heap.size w w' := by
  obtain ⟨i0, hi, hz0, hz1, hz2⟩ := info_parts info_wr
  have hres : Tryd.f31.results = #[.cell 4 41] := by kernel_rfl
  obtain ⟨nB, hnB⟩ : ∃ nB, nB = d.B.length := ⟨_, rfl⟩
  obtain ⟨nL, hnL⟩ : ∃ nL, nL = d.L.length := ⟨_, rfl⟩
  obtain ⟨AB, cB, rfl, hB1, hB2, hsB⟩ := h.b.named hnB
  obtain ⟨AL, cL, hvL, hL1, hL2⟩ := h.l.form
  rw [← hnL] at hvL hL1
  subst hvL
  have HW0 := Lib.hid (And.intro h hk)
  have HARM := Lib.hid h.arm
  have hfL : (nL : Int) < 100000 := by have := h.few; omega
  have hLc : (nL : Int) ≤ (cL : Int) := by omega
  obtain ⟨W1, W2, hW1, hW2, hb2, hs2, hbx, hrx⟩ := two_blocks w 41 #[.slice AB nB cB, .slice AL nL cL, .int .i64 d.armed, .bool d.off] #[.slice none 0 0, .slice none 0 0, .int .i64 0, .bool false]
  have hrest := RefRest_any A n c keep 0 (nL + 1) 0 ((nL : Int) + 1) rfl (by omega) (by omega) (by omega) (by omega) W2 T (hk.kept fun k _ hlt => hb2.block k hlt)
  obtain ⟨K, hK⟩ : ∃ K, K = restK keep 0 (nL + 1) := ⟨_, rfl⟩
  have hKn : K < nL + 1 := by rw [hK]; exact restK_le _ _ _ (by omega)
  rw [← hK] at hrest
  have hKL : K = restK keep 0 (d.L.length + 1) := by rw [hK, hnL]
  have HREST := Lib.hid hrest
  have HK := Lib.hid hKL
  have HB1 := Lib.hid hb2
  have HC := Lib.hid (And.intro hbx hrx)
  have HS1 := Lib.hid hs2
  have HNL := Lib.hid hnL
  have HNB := Lib.hid hnB
  obtain ⟨cs, hrow, h1c, hels⟩ := h.l
  rw [← hnL] at hrow
  have HROW := Lib.hid (And.intro hrow (And.intro h1c hels))
  have hfr := (hrow.front (k := K) (by omega)).kept (w' := W2) fun k _ hlt => hb2.block k hlt
  have HFR := Lib.hid hfr
  have hKI : (K : Int) ≤ (nL : Int) := by omega
  have hK0 : (0 : Int) ≤ (K : Int) := by omega
  unfold rdv
  obtain ⟨q0, _⟩ := hbx 0 _ rfl W2 (Below.refl _ _)
  obtain ⟨q1, _⟩ := hbx 1 _ rfl W2 (Below.refl _ _)
  obtain ⟨q2, _⟩ := hbx 2 _ rfl W2 (Below.refl _ _)
  obtain ⟨q3, _⟩ := hbx 3 _ rfl W2 (Below.refl _ _)
  clear h hk hnB hnL hB1 hB2 hsB hL1 hL2 hbx hrx hs2 hb2 hrest hK hKL hKn hrow h1c hels hfr
  go_enter Tryd.func31, Tryd.ntmps31
  go_upto_region 1 with fail
  rw [← hW1, ← hW2]
  clear hW1 hW2
  go_upto_region 4 with (first
    | (at_builtin; go_must (refine wpList_append_row rfl _ _ 39 rfl W2.heap.size 89 i0 _ 2 32 Tryd.underlying39 hi hz0 hz1 hz2 rfl (by decide) (.slice none 0 0) 0 [] rfl (World.ownsRow_nil _ _ _ _) T AL K cL (cs.take (K * 2)) rfl HFR.out (fun u hu => HROW.out.2.1 u (List.mem_of_mem_take hu)) (by unfold maxLen; omega) (by omega) (Nat.le_refl _) ?_; intro v3 w3 hown3 hg3; have HB3 := Lib.hid ((Below.refl W2.heap.size W2).grown hg3 (Nat.le_refl _) (fun k hk => by cases hk)); have HO3 := Lib.hid (show w3.ownsRow W2.heap.size 89 2 v3 K (cs.take (K * 2)) from by simpa using hown3); clear hown3 hg3))
    | (go_at_call 40; go_must (refine HREST.out.mono ?_; rintro y w2' ⟨rfl, hw2⟩; obtain rfl : W2 = w2' := hw2.symm)))
  clear q0 q1 q2 q3
  obtain ⟨q0, _⟩ := HC.out.1 0 _ rfl w3 HB3.out
  obtain ⟨q1, _⟩ := HC.out.1 1 _ rfl w3 HB3.out
  obtain ⟨q2, _⟩ := HC.out.1 2 _ rfl w3 HB3.out
  obtain ⟨q3, _⟩ := HC.out.1 3 _ rfl w3 HB3.out
  have fin : ∀ (v : Value) (W : World), WrsT W (fun k => (T k ∧ k < w.heap.size) ∨ (W2.heap.size ≤ k ∧ k < W.heap.size)) v (keptL d.L keep) → ∃ A6 n6 c6, v = .slice A6 n6 c6 := fun v W hv => by
    obtain ⟨A6, c6, rfl, _⟩ := hv.form
    exact ⟨_, _, _, rfl⟩
  have FIN := Lib.hid fin
  clear fin
  by_cases hlt : K < nL
  · have i1 : (K : Int) < (nL : Int) := by omega
    obtain ⟨b2, o2, Ad, cd, rfl, hT2, hq0, hq1, hsl⟩ := HW0.out.1.l.at_ K (by have := HNL.out; omega)
    obtain ⟨x, hx⟩ : ∃ x, x = (d.L[K]'(by have := HNL.out; omega)).2 := ⟨_, rfl⟩
    obtain ⟨q, hq⟩ : ∃ q, q = (d.L[K]'(by have := HNL.out; omega)).1 := ⟨_, rfl⟩
    rw [← hx] at hq1 hsl
    rw [← hq] at hq0
    obtain ⟨lx, hlx⟩ : ∃ lx, lx = x.length := ⟨_, rfl⟩
    rw [← hlx] at hq1 hsl
    have hb23 : Below w.heap.size w w3 := HB1.out.trans (HB3.out.mono HB1.out.size)
    have hblt := World.block_lt_of_cell? _ _ hq0
    have p0 := (hb23.cell (p := ⟨b2, o2 + K * 2, none⟩) hblt).trans hq0
    have p1 := (hb23.cell (p := ⟨b2, o2 + K * 2 + 1, none⟩) hblt).trans hq1
    have HSL := Lib.hid hsl
    have hxb : q + lx ≤ 4194304 := by
      have := HW0.out.1.ok (d.L[K]'(by have := HNL.out; omega)) (List.getElem_mem _)
      rw [← hx, ← hq, ← hlx] at this
      have := HW0.out.1.big
      omega
    have HX := Lib.hid (show d.L.drop K = (q, x) :: d.L.drop (K + 1) by rw [hx, hq]; exact List.drop_eq_getElem_cons (by have := HNL.out; omega))
    have HLX := Lib.hid hlx
    have HB23 := Lib.hid hb23
    clear hq0 hq1 hsl hx hq hlx hb23 hblt
    go_upto_region 6 with fail
    obtain ⟨W4, hW4⟩ : ∃ W4, W4 = w3.alloc (.cells #[.int .i64 (q : Int), .slice Ad lx cd] 89) := ⟨_, rfl⟩
    rw [← hW4]
    have hb4 : Below W2.heap.size W2 W4 := by rw [hW4]; exact HB3.out.alloc HB3.out.size _
    have hs4 : W4.heap.size = w3.heap.size + 1 := by rw [hW4, World.size_alloc]
    have hc40 : W4.cell? ⟨w3.heap.size, 0, none⟩ = some (.int .i64 (q : Int)) := by rw [hW4, cell_of_row _ w3.heap.size _ _ _ (0, 0) (heap_alloc_new w3 _)]; rfl
    have hc41 : W4.cell? ⟨w3.heap.size, 1, none⟩ = some (.slice Ad lx cd) := by rw [hW4, cell_of_row _ w3.heap.size _ _ _ (0, 0) (heap_alloc_new w3 _)]; rfl
    have ho4 : W4.ownsRow W2.heap.size 89 2 v3 K (cs.take (K * 2)) := by rw [hW4]; exact HO3.out.alloc _
    have hd : Below W2.heap.size W2 W4.drew ∧ W4.drew.cell? ⟨w3.heap.size, 0, none⟩ = some (.int .i64 (q : Int)) ∧ W4.drew.cell? ⟨w3.heap.size, 1, none⟩ = some (.slice Ad lx cd) := ⟨hb4.drew, by rw [World.cell?_drew]; exact hc40, by rw [World.cell?_drew]; exact hc41⟩
    have HB4 := Lib.hid (And.intro hb4 (And.intro hs4 (And.intro hc40 (And.intro hc41 ho4))))
    have ilx : (lx : Int) ≤ 4194304 := by omega
    obtain ⟨R, hR⟩ : ∃ R, R = restK keep 1 (lx + 1) := ⟨_, rfl⟩
    have hRl : R < lx + 1 := by rw [hR]; exact restK_le _ _ _ (by omega)
    have hrest := RefRest_any A n c keep 1 (lx + 1) 1 ((lx : Int) + 1) rfl (by omega) (by omega) (by omega) (by omega) W4.drew T (HW0.out.2.kept fun k _ hlt => (HB1.out.trans (hb4.mono HB1.out.size)).drew.block k hlt)
    rw [← hR] at hrest
    have HREST1 := Lib.hid hrest
    have HRR := Lib.hid (And.intro hR hRl)
    have iR : (R : Int) ≤ (lx : Int) := by omega
    have iR0 : (0 : Int) ≤ (R : Int) := by omega
    have hlc : (lx : Int) ≤ (cd : Int) := by have := HSL.out.sl.len; omega
    have hRc : (R : Int) ≤ (cd : Int) := by omega
    have hKn : (K : Int) + 1 ≤ 100000 := by omega
    obtain ⟨KK, hKK⟩ : ∃ KK, KK = K := ⟨_, rfl⟩
    have HKK := Lib.hid hKK
    have HO4 := Lib.hid (show W4.ownsRow W2.heap.size 89 2 v3 KK (cs.take (KK * 2)) by rw [hKK]; exact ho4)
    have hKKn : KK ≤ 100000 := by omega
    clear hKK
    have hwl : IntKind.i64.wrap ((lx : Int) + 1) = (lx : Int) + 1 := IntWalk.i64_in _ (by omega)
    clear hb4 hs4 hc40 hc41 ho4 hW4 hR hRl hrest q0 q1 q2 q3 p0 p1
    refine wp_region_held_drew (S := fun W => Below W2.heap.size W2 W ∧ W.cell? ⟨w3.heap.size, 0, none⟩ = some (.int .i64 (q : Int)) ∧ W.cell? ⟨w3.heap.size, 1, none⟩ = some (.slice Ad lx cd)) (by kernel_rfl) hd (fun hHeld => ?_)
    refine wpAnyH_take (i := 0) (oi := { dst := Option.some 30, op := Op.move (Operand.tmp 6), type := 39, pos := "ref.go:124", after := #[], guard := Option.none }) (v := v3) rfl (by kernel_rfl) (by kernel_rfl) (by kernel_rfl) (fun _ _ _ h => h) (Or.inl ⟨by rfl, ?_⟩) hHeld ?_
    · intro W hSw
      have hq := hSw.2.1
      go_simp
    simp only [Act.put, List.setIfInBounds_toArray, List.set_cons_zero, List.set_cons_succ]
    refine wpAnyH_take (i := 1) (oi := { dst := Option.some 31, op := Op.fieldAddr 89 (Operand.tmp 7) 0, type := 0, pos := "ref.go:124", after := #[], guard := Option.none }) (v := .pointer (some ⟨w3.heap.size, 0, none⟩)) rfl (by kernel_rfl) (by kernel_rfl) (by kernel_rfl) (fun _ _ _ h => h) (Or.inl ⟨by rfl, ?_⟩) hHeld ?_
    · intro W hSw
      have hq := hSw.2.1
      go_simp
    simp only [Act.put, List.setIfInBounds_toArray, List.set_cons_zero, List.set_cons_succ]
    refine wpAnyH_take (i := 2) (oi := { dst := Option.some 32, op := Op.load 3 (Operand.tmp 31), type := 3, pos := "ref.go:124", after := #[{ on := 1, ground := Ground.data }], guard := Option.none }) (v := .int .i64 (q : Int)) rfl (by kernel_rfl) (by kernel_rfl) (by kernel_rfl) (fun _ _ _ h => h) (Or.inl ⟨by rfl, ?_⟩) hHeld ?_
    · intro W hSw
      have hq := hSw.2.1
      go_simp
    simp only [Act.put, List.setIfInBounds_toArray, List.set_cons_zero, List.set_cons_succ]
    refine wpAnyH_take (i := 3) (oi := { dst := Option.some 33, op := Op.fieldAddr 89 (Operand.tmp 7) 1, type := 0, pos := "ref.go:124", after := #[], guard := Option.none }) (v := .pointer (some ⟨w3.heap.size, 1, none⟩)) rfl (by kernel_rfl) (by kernel_rfl) (by kernel_rfl) (fun _ _ _ h => h) (Or.inl ⟨by rfl, ?_⟩) hHeld ?_
    · intro W hSw
      have hq := hSw.2.2
      go_simp
    simp only [Act.put, List.setIfInBounds_toArray, List.set_cons_zero, List.set_cons_succ]
    refine wpAnyH_take (i := 4) (oi := { dst := Option.some 34, op := Op.load 24 (Operand.tmp 33), type := 24, pos := "ref.go:124", after := #[{ on := 3, ground := Ground.data }], guard := Option.none }) (v := .slice Ad lx cd) rfl (by kernel_rfl) (by kernel_rfl) (by kernel_rfl) (fun _ _ _ h => h) (Or.inl ⟨by rfl, ?_⟩) hHeld ?_
    · intro W hSw
      have hq := hSw.2.2
      go_simp
    simp only [Act.put, List.setIfInBounds_toArray, List.set_cons_zero, List.set_cons_succ]
    refine wpAnyH_take (i := 5) (oi := { dst := Option.some 35, op := Op.move (Operand.tmp 1), type := 46, pos := "ref.go:124", after := #[], guard := Option.none }) (v := .slice A n c) rfl (by kernel_rfl) (by kernel_rfl) (by kernel_rfl) (fun _ _ _ h => h) (Or.inl ⟨by rfl, ?_⟩) hHeld ?_
    · intro W hSw
      have hq := hSw.2.2
      go_simp
    simp only [Act.put, List.setIfInBounds_toArray, List.set_cons_zero, List.set_cons_succ]
    refine wpAnyH_take (i := 6) (oi := { dst := Option.some 36, op := Op.fieldAddr 89 (Operand.tmp 7) 1, type := 0, pos := "ref.go:124", after := #[], guard := Option.none }) (v := .pointer (some ⟨w3.heap.size, 1, none⟩)) rfl (by kernel_rfl) (by kernel_rfl) (by kernel_rfl) (fun _ _ _ h => h) (Or.inl ⟨by rfl, ?_⟩) hHeld ?_
    · intro W hSw
      have hq := hSw.2.2
      go_simp
    simp only [Act.put, List.setIfInBounds_toArray, List.set_cons_zero, List.set_cons_succ]
    refine wpAnyH_take (i := 7) (oi := { dst := Option.some 37, op := Op.load 24 (Operand.tmp 36), type := 24, pos := "ref.go:124", after := #[{ on := 6, ground := Ground.data }], guard := Option.none }) (v := .slice Ad lx cd) rfl (by kernel_rfl) (by kernel_rfl) (by kernel_rfl) (fun _ _ _ h => h) (Or.inl ⟨by rfl, ?_⟩) hHeld ?_
    · intro W hSw
      have hq := hSw.2.2
      go_simp
    simp only [Act.put, List.setIfInBounds_toArray, List.set_cons_zero, List.set_cons_succ]
    refine wpAnyH_take (i := 8) (oi := { dst := Option.some 38, op := Op.call { callee := Callee.builtin Builtin.len, args := #[Operand.tmp 37], argTypes := #[24] }, type := 3, pos := "ref.go:124", after := #[{ on := 7, ground := Ground.data }], guard := Option.none }) (v := .int .i64 (lx : Int)) rfl (by kernel_rfl) (by kernel_rfl) (by kernel_rfl) (fun _ _ _ h => h) (Or.inl ⟨by rfl, ?_⟩) hHeld ?_
    · intro W hSw
      have hq := hSw.2.2
      go_simp
    simp only [Act.put, List.setIfInBounds_toArray, List.set_cons_zero, List.set_cons_succ]
    refine wpAnyH_take (i := 9) (oi := { dst := Option.some 39, op := Op.binOp BinOp.add 3 (Operand.tmp 38) (Operand.const (Value.int IntKind.i64 1)) 3, type := 3, pos := "ref.go:124", after := #[{ on := 8, ground := Ground.data }], guard := Option.none }) (v := .int .i64 ((lx : Int) + 1)) rfl (by kernel_rfl) (by kernel_rfl) (by kernel_rfl) (fun _ _ _ h => h) (Or.inl ⟨by rfl, ?_⟩) hHeld ?_
    · intro W hSw
      have hq := hSw.2.2
      go_simp
    simp only [Act.put, List.setIfInBounds_toArray, List.set_cons_zero, List.set_cons_succ]
    refine wpAnyH_ready (rs := [10]) (by kernel_rfl) (by simp) ?_
    refine AllReadyH.cons (o := { dst := Option.some 40, op := Op.call { callee := Callee.value (Operand.func 40), args := #[Operand.tmp 35, Operand.const (Value.int IntKind.i64 1), Operand.tmp 39], argTypes := #[46, 3, 3] }, type := 3, pos := "ref.go:124", after := #[{ on := 5, ground := Ground.data }, { on := 9, ground := Ground.data }], guard := Option.none }) rfl (fun K hK => ?_) AllReadyH.nil
    go_simp
    refine HREST1.out.mono ?_
    rintro y w5 ⟨rfl, hw5⟩
    subst hw5
    refine hK.out _ _ hHeld (fun hHeld => ?_)
    clear hK K
    refine wpAnyH_take (i := 11) (oi := { dst := Option.some 41, op := Op.slice 24 (Operand.tmp 34) Option.none (Option.some (Operand.tmp 40)) Option.none, type := 24, pos := "ref.go:124", after := #[{ on := 4, ground := Ground.data }, { on := 10, ground := Ground.data }], guard := Option.none }) (v := .slice Ad R cd) rfl (by kernel_rfl) (by kernel_rfl) (by kernel_rfl) (fun _ _ _ h => h) (Or.inl ⟨by rfl, ?_⟩) hHeld ?_
    · intro W hSw
      go_simp
    simp only [Act.put, List.setIfInBounds_toArray, List.set_cons_zero, List.set_cons_succ]
    refine wpAnyH_take (i := 12) (oi := { dst := Option.some 42, op := Op.build 89 #[(0, Operand.tmp 32), (1, Operand.tmp 41)], type := 89, pos := "ref.go:124", after := #[{ on := 2, ground := Ground.data }, { on := 11, ground := Ground.data }], guard := Option.none }) (v := .agg #[.int .i64 (q : Int), .slice Ad R cd]) rfl (by kernel_rfl) (by kernel_rfl) (by kernel_rfl) (fun _ _ _ h => h) (Or.inl ⟨by rfl, ?_⟩) hHeld ?_
    · intro W hSw
      go_simp
    simp only [Act.put, List.setIfInBounds_toArray, List.set_cons_zero, List.set_cons_succ]
    refine wpAnyH_ready (rs := [13]) (by kernel_rfl) (by simp) ?_
    refine AllReadyH.cons (o := { dst := Option.some 43, op := Op.buildSlice 39 1 #[(0, Operand.tmp 42)], type := 39, pos := "ref.go:124", after := #[{ on := 12, ground := Ground.data }], guard := Option.none }) rfl (fun K hK => ?_) AllReadyH.nil
    go_simp
    have hb5 : Below W2.heap.size W2 (W4.alloc (.cells #[.int .i64 (q : Int), .slice Ad R cd] 89)).drew := (HB4.out.1.alloc HB4.out.1.size _).drew
    have hlt3 : w3.heap.size < W4.heap.size := by have := HB4.out.2.1; omega
    have hd5 : ∀ W, Below W4.heap.size W4 W → W.cell? ⟨w3.heap.size, 0, none⟩ = some (.int .i64 (q : Int)) ∧ W.cell? ⟨w3.heap.size, 1, none⟩ = some (.slice Ad lx cd) := fun W hW =>
      ⟨(hW.cell (p := ⟨w3.heap.size, 0, none⟩) hlt3).trans HB4.out.2.2.1, (hW.cell (p := ⟨w3.heap.size, 1, none⟩) hlt3).trans HB4.out.2.2.2.1⟩
    have h5 := hd5 _ (((Below.refl _ _).alloc (Nat.le_refl _) (.cells #[.int .i64 (q : Int), .slice Ad R cd] 89)).drew)
    refine hK.out _ _ ⟨hb5, h5.1, h5.2⟩ (fun hHeld => ?_)
    clear hK K
    have HD5 := Lib.hid (And.intro hb5 hd5)
    clear hb5 hd5 h5
    refine wpAnyH_ready (rs := [14]) (by kernel_rfl) (by simp) ?_
    refine AllReadyH.cons (o := { dst := Option.some 44, op := Op.call { callee := Callee.builtin Builtin.append, args := #[Operand.tmp 30, Operand.tmp 43], argTypes := #[39, 39] }, type := 39, pos := "ref.go:124", after := #[{ on := 0, ground := Ground.data }, { on := 13, ground := Ground.data }, { on := 10, ground := Ground.chain }], guard := Option.none }) rfl (fun K hK => ?_) AllReadyH.nil
    rw [if_pos (by kernel_rfl)]
    refine wp_append_row _ _ 39 rfl W2.heap.size 89 i0 _ 2 32 Tryd.underlying39 hi hz0 hz1 hz2 rfl (by decide) v3 KK (cs.take (KK * 2)) rfl ((HO4.out.alloc _).drew) (fun _ => True) (some ⟨W4.heap.size, 0, none⟩) 1 1 [.int .i64 (q : Int), .slice Ad R cd] rfl ?_ (by simp [Value.oneCell']) (by unfold maxLen; omega) (by omega) HD5.out.1.size ?_
    · refine ⟨rfl, some ⟨W4.heap.size, 0, none⟩, 1, rfl, by omega, by omega, Or.inr ⟨W4.heap.size, 0, rfl, trivial, fun j u hj => ?_⟩⟩
      have := lit_cells W4 89 [.int .i64 (q : Int), .slice Ad R cd] (0, 0) j u hj
      rw [Lib.add_plain] at this
      exact this
    intro v6 w6 hown6 hg6
    have hne : some w3.heap.size ≠ v3.ownBlock := fun e => by have := (HO3.out.lt _ e.symm).2; omega
    have h5 := HD5.out.2 _ (((Below.refl _ _).alloc (Nat.le_refl _) (.cells #[.int .i64 (q : Int), .slice Ad R cd] 89)).drew)
    have hb6 := HD5.out.1.grown hg6 HD5.out.1.size (fun k hk => (HO4.out.lt k hk).1)
    have hl6 : WrsT w6 (fun k => (T k ∧ k < w.heap.size) ∨ (W2.heap.size ≤ k ∧ k < w6.heap.size)) v6 (keptL d.L keep) := by
      have hln : (d.L.take KK).length = KK := by rw [List.length_take]; have := HNL.out; have := HKK.out; omega
      have hcl : (cs.take (KK * 2)).length = (d.L.take KK).length * 2 := by rw [hln, List.length_take]; have := HROW.out.1.1; have := HKK.out; omega
      have hkk : keptL d.L keep = d.L.take KK ++ [(q, x.take R)] := by
        unfold keptL
        rw [← HK.out, ← HKK.out, HKK.out, HX.out]
        simp only [List.take_succ_cons, List.take_zero, List.map_cons, List.map_nil]
        rw [HRR.out.1, HLX.out]
      have hbw : Below w.heap.size w w6 := HB1.out.trans (hb6.mono HB1.out.size)
      rw [hkk]
      refine WrsT.snoc (u := .slice Ad R cd) (by rw [hln]; exact hown6) (fun g hg => Or.inr (hown6.lt g hg)) hcl (fun z hz => HROW.out.2.1 z (List.mem_of_mem_take hz)) rfl (fun j hj => ?_) ?_
      · have hjL : j < d.L.length := by rw [List.length_take] at hj; omega
        have hjK : j < KK := by rw [hln] at hj; exact hj
        obtain ⟨h0, u, hu, hs⟩ := HROW.out.2.2 j hjL
        rw [List.getElem_take, List.getElem?_take, if_pos (by omega), List.getElem?_take, if_pos (by omega)]
        exact ⟨h0, u, hu, (hs.here.below hbw).mono fun k hk => Or.inl hk⟩
      · exact ((HSL.out.here.front (k := R) (by have := HLX.out; omega)).below hbw).mono fun k hk => Or.inl hk
    obtain ⟨A6, n6, c6, rfl⟩ := FIN.out _ _ hl6
    have HB6 := Lib.hid hb6
    have HL6 := Lib.hid hl6
    refine hK.out _ _ ⟨hb6, (hg6.cell (a := ⟨w3.heap.size, 0, none⟩) h5.1 hne), (hg6.cell (a := ⟨w3.heap.size, 1, none⟩) h5.2 hne)⟩ (fun hHeld => ?_)
    clear hK K hne h5 hb6 hl6 hown6 hg6
    refine wpAnyH_take (i := 15) (oi := { dst := Option.some 6, op := Op.assign (Operand.tmp 44), type := 39, pos := "ref.go:124", after := #[{ on := 14, ground := Ground.data }, { on := 14, ground := Ground.chain }, { on := 0, ground := Ground.phase }, { on := 1, ground := Ground.phase }, { on := 2, ground := Ground.phase }, { on := 3, ground := Ground.phase }, { on := 4, ground := Ground.phase }, { on := 5, ground := Ground.phase }, { on := 6, ground := Ground.phase }, { on := 7, ground := Ground.phase }, { on := 8, ground := Ground.phase }, { on := 9, ground := Ground.phase }, { on := 10, ground := Ground.phase }, { on := 11, ground := Ground.phase }, { on := 12, ground := Ground.phase }, { on := 13, ground := Ground.phase }, { on := 14, ground := Ground.phase }], guard := Option.none }) (v := .slice A6 n6 c6) rfl (by kernel_rfl) (by kernel_rfl) (by kernel_rfl) (fun _ _ _ h => h) (Or.inl ⟨by rfl, ?_⟩) hHeld ?_
    · intro W hSw
      go_simp
    simp only [Act.put, List.setIfInBounds_toArray, List.set_cons_zero, List.set_cons_succ]
    clear hHeld hlt3
    refine wpAnyH_done (by kernel_rfl) ?_ _
    obtain ⟨p0, g0⟩ := HC.out.1 0 _ rfl w6 HB6.out
    obtain ⟨p1, g1⟩ := HC.out.1 1 _ rfl w6 HB6.out
    obtain ⟨p2, g2⟩ := HC.out.1 2 _ rfl w6 HB6.out
    obtain ⟨p3, g3⟩ := HC.out.1 3 _ rfl w6 HB6.out
    go_upto_region 8 with fail
    obtain ⟨W7, hW7⟩ : ∃ W7, W7 = w6.setCell ⟨w.heap.size, 1, none⟩ (.slice A6 n6 c6) := ⟨_, rfl⟩
    rw [← hW7]
    have hs7 : W7.heap.size = w6.heap.size := by rw [hW7]; simp [World.setCell]
    have hb7 : Below w.heap.size w W7 := by rw [hW7]; exact (HB1.out.trans (HB6.out.mono HB1.out.size)).setCell (Nat.le_refl _) _
    have q0 : W7.cell? ⟨w.heap.size, 0, none⟩ = some (.slice AB nB cB) := by rw [hW7, World.cell?_setCell_other _ _ _ _ (by simp)]; exact p0
    have q1 : W7.cell? ⟨w.heap.size, 1, none⟩ = some (.slice A6 n6 c6) := by rw [hW7, World.cell?_setCell_same' _ _ _ (by rw [p1]; rfl)]
    have q2 : W7.cell? ⟨w.heap.size, 2, none⟩ = some (.int .i64 d.armed) := by rw [hW7, World.cell?_setCell_other _ _ _ _ (by simp)]; exact p2
    have q3 : W7.cell? ⟨w.heap.size, 3, none⟩ = some (.bool d.off) := by rw [hW7, World.cell?_setCell_other _ _ _ _ (by simp)]; exact p3
    have hrx : ∀ j v, (#[.slice none 0 0, .slice none 0 0, .int .i64 0, .bool false] : Array Value)[j]? = some v → ∀ W, Below W7.heap.size W7 W → W.cell? ⟨w.heap.size + 1, j, none⟩ = some v ∧ W.frozen? ⟨w.heap.size + 1, j, none⟩ = false := by
      intro j v hj W hW
      have hlt : w.heap.size + 1 < W7.heap.size := by have := HS1.out; have := HB6.out.size; omega
      rw [hW.cell (p := ⟨w.heap.size + 1, j, none⟩) hlt, hW.frozen (p := ⟨w.heap.size + 1, j, none⟩) hlt, hW7, World.cell?_setCell_other _ _ _ _ (by simp), World.frozen?_setCell]
      exact HC.out.2 j v hj w6 HB6.out
    have hL7 : WrsT W7 (fun k => (T k ∧ k < w.heap.size) ∨ (W2.heap.size ≤ k ∧ k < w6.heap.size)) (.slice A6 n6 c6) (keptL d.L keep) := by
      refine HL6.out.kept fun k hk _ => ?_
      rw [hW7]
      refine Below.heap_setCell _ _ _ _ (show k ≠ w.heap.size from ?_)
      have := HS1.out
      rcases hk with hk | hk
      · have := hk.2; omega
      · have := hk.1; omega
    have hRD7 : RD W7 (fun k => T k ∨ (w.heap.size ≤ k ∧ k < W7.heap.size)) (.slice AB nB cB) (.slice A6 n6 c6) { d with L := keptL d.L keep } := by
      refine ⟨(HW0.out.1.b.below hb7).mono fun k hk => Or.inl hk, hL7.mono fun k hk => ?_, fun u hu => keptL_ok HW0.out.1.ok keep u hu, HW0.out.1.one, HW0.out.1.big, ?_, HW0.out.1.arm⟩
      · rcases hk with hk | hk
        · exact Or.inl hk.1
        · exact Or.inr ⟨by have := HS1.out; have := hk.1; omega, by have := hk.2; omega⟩
      · have := keptL_len d.L keep
        have := HW0.out.1.few
        show (keptL d.L keep).length < 100000
        omega
    have hnow := RefNow_any _ _ _ W7 _ hRD7
    unfold rdv at hnow
    have HNOW := Lib.hid (show Calls Tryd.prog 34 #[.agg #[.slice AB nB cB, .slice A6 n6 c6, .int .i64 d.armed, .bool d.off]] W7 fun x w' => ∃ v, x = .returned v ∧ SlT w' (fun k => W7.heap.size ≤ k ∧ k < w'.heap.size) v (nowL d.B (keptL d.L keep)) ∧ Below W7.heap.size W7 w' from hnow)
    have HB7 := Lib.hid (And.intro hb7 hs7)
    have HX := Lib.hid hrx
    clear hb7 hs7 hrx hL7 hRD7 hnow hW7 p0 p1 p2 p3 g0 g1 g2 g3
    go_wp2_with (go_at_call 34; go_must (refine HNOW.out.mono ?_; rintro y w8 ⟨v8, rfl, hs8, hb8⟩; obtain ⟨A8, n8, c8, rfl⟩ := hs8.form; obtain ⟨r0, f0⟩ := HX.out 0 _ rfl w8 hb8; obtain ⟨r1, f1⟩ := HX.out 1 _ rfl w8 hb8; obtain ⟨r2, f2⟩ := HX.out 2 _ rfl w8 hb8; obtain ⟨r3, f3⟩ := HX.out 3 _ rfl w8 hb8; have HS8 := Lib.hid hs8; have HB8 := Lib.hid hb8; clear hs8 hb8))
    have hbF := set4_below (HB7.out.1.trans (HB8.out.mono HB7.out.1.size)) (Nat.le_succ w.heap.size) (.slice A8 n8 c8) (.slice none 0 0) (.int .i64 (-1)) (.bool false)
    have HBF := Lib.hid hbF
    clear hbF
    refine bodyPost_ret (v := .agg #[.slice A8 n8 c8, .slice none 0 0, .int .i64 (-1), .bool false]) ?_ rfl ⟨.slice A8 n8 c8, rfl, ?_, HBF.out⟩
    · simp only [results, hres]
      go_simp
    · have hln := startD_len HW0.out.1.ok keep
      refine ⟨(HS8.out.kept fun k hk _ => ?_).mono fun k hk => Or.inr ⟨?_, ?_⟩, WrsT.nil_ _ _, startD_ok d keep, by rw [hln]; exact HW0.out.1.one, by rw [hln]; exact HW0.out.1.big, by show 0 < 100000; omega, ⟨by show (-1 : Int) ≤ -1; omega, by show (-1 : Int) ≤ _; omega⟩⟩
      · exact set4_block _ _ _ _ _ _ k (by have := HS1.out; have := HB6.out.size; have := HB7.out.2; have := hk.1; omega)
      · have := HB7.out.1.size; have := hk.1; omega
      · have := hk.2; simpa [World.setCell] using this
  · have i1 : ¬ (K : Int) < (nL : Int) := by omega
    have hKn : K = nL := by omega
    obtain ⟨w6, rfl⟩ : ∃ w6, w6 = w3 := ⟨_, rfl⟩
    have hl6 : WrsT w6 (fun k => (T k ∧ k < w.heap.size) ∨ (W2.heap.size ≤ k ∧ k < w6.heap.size)) v3 (keptL d.L keep) := by
      have hkk : keptL d.L keep = d.L := by
        unfold keptL
        rw [← HK.out, hKn, HNL.out, List.take_length, List.drop_length]
        simp
      have hct : cs.take (K * 2) = cs := by
        have := HROW.out.1.1
        rw [hKn, ← this]
        exact List.take_length
      have ho := HO3.out
      rw [hct, hKn, HNL.out] at ho
      have hbw : Below w.heap.size w w6 := HB1.out.trans (HB3.out.mono HB1.out.size)
      rw [hkk]
      refine ⟨cs, RowT.of_own ho _ (fun g hg => Or.inr (ho.lt g hg)), HROW.out.2.1, fun j hj => ?_⟩
      obtain ⟨h0, u, hu, hs⟩ := HROW.out.2.2 j hj
      exact ⟨h0, u, hu, (hs.here.below hbw).mono fun k hk => Or.inl hk⟩
    obtain ⟨A6, n6, c6, rfl⟩ := FIN.out _ _ hl6
    have HB6 := Lib.hid HB3.out
    have HL6 := Lib.hid hl6
    clear hlt hKn hl6
    go_upto_region 7 with fail
    clear q0 q1 q2 q3
    obtain ⟨p0, g0⟩ := HC.out.1 0 _ rfl w6 HB6.out
    obtain ⟨p1, g1⟩ := HC.out.1 1 _ rfl w6 HB6.out
    obtain ⟨p2, g2⟩ := HC.out.1 2 _ rfl w6 HB6.out
    obtain ⟨p3, g3⟩ := HC.out.1 3 _ rfl w6 HB6.out
    go_upto_region 8 with fail
    obtain ⟨W7, hW7⟩ : ∃ W7, W7 = w6.setCell ⟨w.heap.size, 1, none⟩ (.slice A6 n6 c6) := ⟨_, rfl⟩
    rw [← hW7]
    have hs7 : W7.heap.size = w6.heap.size := by rw [hW7]; simp [World.setCell]
    have hb7 : Below w.heap.size w W7 := by rw [hW7]; exact (HB1.out.trans (HB6.out.mono HB1.out.size)).setCell (Nat.le_refl _) _
    have q0 : W7.cell? ⟨w.heap.size, 0, none⟩ = some (.slice AB nB cB) := by rw [hW7, World.cell?_setCell_other _ _ _ _ (by simp)]; exact p0
    have q1 : W7.cell? ⟨w.heap.size, 1, none⟩ = some (.slice A6 n6 c6) := by rw [hW7, World.cell?_setCell_same' _ _ _ (by rw [p1]; rfl)]
    have q2 : W7.cell? ⟨w.heap.size, 2, none⟩ = some (.int .i64 d.armed) := by rw [hW7, World.cell?_setCell_other _ _ _ _ (by simp)]; exact p2
    have q3 : W7.cell? ⟨w.heap.size, 3, none⟩ = some (.bool d.off) := by rw [hW7, World.cell?_setCell_other _ _ _ _ (by simp)]; exact p3
    have hrx : ∀ j v, (#[.slice none 0 0, .slice none 0 0, .int .i64 0, .bool false] : Array Value)[j]? = some v → ∀ W, Below W7.heap.size W7 W → W.cell? ⟨w.heap.size + 1, j, none⟩ = some v ∧ W.frozen? ⟨w.heap.size + 1, j, none⟩ = false := by
      intro j v hj W hW
      have hlt : w.heap.size + 1 < W7.heap.size := by have := HS1.out; have := HB6.out.size; omega
      rw [hW.cell (p := ⟨w.heap.size + 1, j, none⟩) hlt, hW.frozen (p := ⟨w.heap.size + 1, j, none⟩) hlt, hW7, World.cell?_setCell_other _ _ _ _ (by simp), World.frozen?_setCell]
      exact HC.out.2 j v hj w6 HB6.out
    have hL7 : WrsT W7 (fun k => (T k ∧ k < w.heap.size) ∨ (W2.heap.size ≤ k ∧ k < w6.heap.size)) (.slice A6 n6 c6) (keptL d.L keep) := by
      refine HL6.out.kept fun k hk _ => ?_
      rw [hW7]
      refine Below.heap_setCell _ _ _ _ (show k ≠ w.heap.size from ?_)
      have := HS1.out
      rcases hk with hk | hk
      · have := hk.2; omega
      · have := hk.1; omega
    have hRD7 : RD W7 (fun k => T k ∨ (w.heap.size ≤ k ∧ k < W7.heap.size)) (.slice AB nB cB) (.slice A6 n6 c6) { d with L := keptL d.L keep } := by
      refine ⟨(HW0.out.1.b.below hb7).mono fun k hk => Or.inl hk, hL7.mono fun k hk => ?_, fun u hu => keptL_ok HW0.out.1.ok keep u hu, HW0.out.1.one, HW0.out.1.big, ?_, HW0.out.1.arm⟩
      · rcases hk with hk | hk
        · exact Or.inl hk.1
        · exact Or.inr ⟨by have := HS1.out; have := hk.1; omega, by have := hk.2; omega⟩
      · have := keptL_len d.L keep
        have := HW0.out.1.few
        show (keptL d.L keep).length < 100000
        omega
    have hnow := RefNow_any _ _ _ W7 _ hRD7
    unfold rdv at hnow
    have HNOW := Lib.hid (show Calls Tryd.prog 34 #[.agg #[.slice AB nB cB, .slice A6 n6 c6, .int .i64 d.armed, .bool d.off]] W7 fun x w' => ∃ v, x = .returned v ∧ SlT w' (fun k => W7.heap.size ≤ k ∧ k < w'.heap.size) v (nowL d.B (keptL d.L keep)) ∧ Below W7.heap.size W7 w' from hnow)
    have HB7 := Lib.hid (And.intro hb7 hs7)
    have HX := Lib.hid hrx
    clear hb7 hs7 hrx hL7 hRD7 hnow hW7 p0 p1 p2 p3 g0 g1 g2 g3
    go_wp2_with (go_at_call 34; go_must (refine HNOW.out.mono ?_; rintro y w8 ⟨v8, rfl, hs8, hb8⟩; obtain ⟨A8, n8, c8, rfl⟩ := hs8.form; obtain ⟨r0, f0⟩ := HX.out 0 _ rfl w8 hb8; obtain ⟨r1, f1⟩ := HX.out 1 _ rfl w8 hb8; obtain ⟨r2, f2⟩ := HX.out 2 _ rfl w8 hb8; obtain ⟨r3, f3⟩ := HX.out 3 _ rfl w8 hb8; have HS8 := Lib.hid hs8; have HB8 := Lib.hid hb8; clear hs8 hb8))
    have hbF := set4_below (HB7.out.1.trans (HB8.out.mono HB7.out.1.size)) (Nat.le_succ w.heap.size) (.slice A8 n8 c8) (.slice none 0 0) (.int .i64 (-1)) (.bool false)
    have HBF := Lib.hid hbF
    clear hbF
    refine bodyPost_ret (v := .agg #[.slice A8 n8 c8, .slice none 0 0, .int .i64 (-1), .bool false]) ?_ rfl ⟨.slice A8 n8 c8, rfl, ?_, HBF.out⟩
    · simp only [results, hres]
      go_simp
    · have hln := startD_len HW0.out.1.ok keep
      refine ⟨(HS8.out.kept fun k hk _ => ?_).mono fun k hk => Or.inr ⟨?_, ?_⟩, WrsT.nil_ _ _, startD_ok d keep, by rw [hln]; exact HW0.out.1.one, by rw [hln]; exact HW0.out.1.big, by show 0 < 100000; omega, ⟨by show (-1 : Int) ≤ -1; omega, by show (-1 : Int) ≤ _; omega⟩⟩
      · exact set4_block _ _ _ _ _ _ k (by have := HS1.out; have := HB6.out.size; have := HB7.out.2; have := hk.1; omega)
      · have := HB7.out.1.size; have := hk.1; omega
      · have := hk.2; simpa [World.setCell] using this

end Go.Proofs.YtlhagbcomnjnoaaDoor.pk
