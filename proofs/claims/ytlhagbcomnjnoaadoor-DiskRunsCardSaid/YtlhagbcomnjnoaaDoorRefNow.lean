/-
  The document's disk: its bytes as the writes made them.
-/
import Derived.Test.YtlhagbcomnjnoaaDoorRefBad
import Derived.Test.YtlhagbcomnjnoaaDoorTailQ
namespace Go.Proofs.YtlhagbcomnjnoaaDoor.pk
open Go Go.RowKit
set_option maxRecDepth 100000

theorem RD.below {w w' : World} {T : Nat → Prop} {vB vL : Value} {d : Dk} (h : RD w T vB vL d) (hb : Below w.heap.size w w') : RD w' T vB vL d := by
  refine ⟨h.b.kept fun k _ hk => hb.block k hk, ?_, h.ok, h.one, h.big, h.few, h.arm⟩
  obtain ⟨cs, h1, h1c, h2⟩ := h.l
  refine ⟨cs, h1.kept fun k _ hk => hb.block k hk, h1c, fun j hj => ?_⟩
  obtain ⟨a, u, hu, hs⟩ := h2 j hj
  exact ⟨a, u, hu, hs.kept fun k _ hk => hb.block k hk⟩

theorem put1_snoc (b : List UInt8) (q : Nat) (y : List UInt8) (c : UInt8) (h : q + y.length < b.length) : (put1 b q y).set (q + y.length) c = put1 b q (y ++ [c]) := by
  have ht : (b.take q).length = q := by rw [List.length_take]; omega
  unfold put1
  rw [List.set_append_right _ _ (by rw [List.length_append]; omega), List.length_append, ht, Nat.sub_self]
  have hd : b.drop (q + y.length) = b[q + y.length] :: b.drop (q + y.length + 1) := List.drop_eq_getElem_cons h
  rw [hd, List.set_cons_zero, List.length_append, List.append_assoc, List.append_assoc, List.append_assoc]
  rfl
theorem now_next (b : List UInt8) (L : List (Nat × List UInt8)) (i : Nat) (hi : i < L.length) : nowL b (L.take (i + 1)) = put1 (nowL b (L.take i)) L[i].1 L[i].2 := by
  rw [List.take_succ_eq_append_getElem hi, nowL_append]
  rfl
theorem now_take_len (d : Dk) (h : d.Ok) (i : Nat) : (nowL d.B (d.L.take i)).length = d.B.length := nowL_len fun w hw => h w (List.mem_of_mem_take hw)
theorem put1_nil (b : List UInt8) (q : Nat) : put1 b q [] = b := by
  unfold put1
  rw [List.append_nil, List.length_nil, Nat.add_zero, List.take_append_drop]

set_option maxHeartbeats 4000000 in
theorem RefNow_any (vB vL : Value) (d : Dk) (w : World) (T : Nat → Prop) (h : RD w T vB vL d) :
    Calls Tryd.prog 34 #[rdv vB vL d] w fun x w' => ∃ v, x = .returned v ∧ SlT w' (fun k => w.heap.size ≤ k ∧ k < w'.heap.size) v d.now ∧ Below w.heap.size w w' := by
  obtain ⟨i0, hi, hz0, hz1, hz2⟩ := info_parts info_u8
  obtain ⟨W1, hW1⟩ : ∃ W1, W1 = w.alloc (.cells #[vB, vL, .int .i64 d.armed, .bool d.off] 41) := ⟨_, rfl⟩
  have hb1 : Below w.heap.size w W1 := by rw [hW1]; exact (Below.refl _ _).alloc (Nat.le_refl _) _
  have hx1 : W1.cell? ⟨w.heap.size, 1, none⟩ = some vL := by rw [hW1, cell_of_row _ w.heap.size _ _ _ (0, 0) (heap_alloc_new w _)]; rfl
  have hs1 : W1.heap.size = w.heap.size + 1 := by rw [hW1, World.size_alloc]
  have h1 := h.below hb1
  obtain ⟨AB, cB, rfl, hB1, hB2, _⟩ := h.b
  obtain ⟨AL, cL, rfl, hL1, hL2⟩ := h.l.form
  have HB1 := Lib.hid hb1
  have HX := Lib.hid hx1
  have HS1 := Lib.hid hs1
  have hone := h.one
  have hbig := h.big
  have hfew := h.few
  obtain ⟨nB, hnB⟩ : ∃ nB, nB = d.B.length := ⟨_, rfl⟩
  obtain ⟨nL, hnL⟩ : ∃ nL, nL = d.L.length := ⟨_, rfl⟩
  have HNB := Lib.hid hnB
  have HNL := Lib.hid hnL
  rw [← hnB] at hone hbig hB1
  rw [← hnL] at hfew HX
  rw [← hnB, ← hnL] at h1
  have HR := Lib.hid h1
  have hbI : (nB : Int) ≤ 4194304 := by omega
  have hLI : (nL : Int) ≤ 100000 := by omega
  unfold rdv
  rw [← hnB, ← hnL]
  rw [← hnB, ← hnL] at hW1
  generalize d.armed = r at hW1
  generalize d.off = o at hW1
  clear h h1 hb1 hx1 hs1 hnB hnL hB1 hB2 hL1 hL2
  go_enter Tryd.func34, Tryd.ntmps34
  go_upto_region 2 with fail
  rw [← hW1]
  have hx := HX.out
  have HW1 := Lib.hid hW1
  have hx0 : W1.cell? ⟨w.heap.size, 0, none⟩ = some (.slice AB nB cB) := by rw [hW1, cell_of_row _ w.heap.size _ _ _ (0, 0) (heap_alloc_new w _)]; rfl
  clear hW1
  go_upto_region 3 with (at_builtin; refine wpList_append_sl rfl _ _ 24 rfl W1.heap.size 5 i0 _ Tryd.underlying24 hi hz0 hz1 hz2 rfl (.slice none 0 0) 0 [] rfl (World.ownsRow_nil _ _ _ _) W1.heap.size AB nB cB d.B rfl HR.out.b.sl (by have := HNB.out; omega) (Nat.le_refl _) ?_; intro v2 w2 hown2 hg2; have HB2 := Lib.hid ((Below.refl W1.heap.size W1).grown hg2 (Nat.le_refl _) (fun k hk => by cases hk)); have HO2 := Lib.hid (show w2.ownsRow W1.heap.size 5 1 v2 nB (Lib.byteCells d.B) from by rw [HNB.out]; simpa using hown2); clear hown2 hg2)
  clear hx hx0
  have ho2 := HO2.out
  obtain ⟨g, cap, rfl, hg0, hg1, hg2, hg3⟩ := row_form ho2 (by omega)
  have HG := Lib.hid (And.intro hg0 hg1)
  have hcI : (nB : Int) ≤ (cap : Int) := by omega
  clear ho2 hg0 hg1 hg2 hg3
  go_wp2_with fail
  go_loopw [4] (fun ii wr => ∃ i : Nat, i ≤ nL ∧ ii = .int .i64 (i : Int) ∧ wr.ownsRow W1.heap.size 5 1 (.slice (some ⟨g, 0, none⟩) nB cap) nB (Lib.byteCells (nowL d.B (d.L.take i))) ∧ Below W1.heap.size W1 wr) (fun ii _ => nL - (intOf ii).toNat)
  case atStart => exact ⟨0, by omega, rfl, HO2.out, HB2.out⟩
  case round =>
    obtain ⟨i, hiL, rfl, hor, hbr⟩ := hrel
    have HO := Lib.hid hor
    have HB := Lib.hid hbr
    clear hor hbr
    have hx := (HB.out.cell (p := ⟨w.heap.size, 1, none⟩) (by show w.heap.size < W1.heap.size; have := HS1.out; omega)).trans HX.out
    by_cases hlt : i < nL
    · have hil : i < d.L.length := by have := HNL.out; omega
      obtain ⟨b2, o2, Ad, cd, rfl, hT2, hq0, hq1, hsl⟩ := HR.out.l.at_ i hil
      have hwr := HR.out.ok d.L[i] (List.getElem_mem hil)
      have hnx := now_next d.B d.L i hil
      obtain ⟨q, hq⟩ : ∃ q, q = d.L[i].1 := ⟨_, rfl⟩
      obtain ⟨x, hxx⟩ : ∃ x, x = d.L[i].2 := ⟨_, rfl⟩
      rw [← hq] at hq0 hwr hnx
      rw [← hxx] at hq1 hsl hwr hnx
      obtain ⟨lx, hlx⟩ : ∃ lx, lx = x.length := ⟨_, rfl⟩
      rw [← hlx] at hq1 hsl hwr
      have hb2 := World.block_lt_of_cell? _ _ hq0
      have HQ := Lib.hid (And.intro hb2 (And.intro hq0 hq1))
      have HSL := Lib.hid hsl
      have HLX := Lib.hid hlx
      have HNX := Lib.hid hnx
      have hqB : q + lx ≤ nB := by have := HNB.out; omega
      have hcl := now_take_len d HR.out.ok i
      generalize nowL d.B (d.L.take i) = cur at hcl HO HNX
      have HCL := Lib.hid (show cur.length = nB by rw [hcl, HNB.out])
      have i1 : (i : Int) < (nL : Int) := by omega
      have i0 : (0 : Int) ≤ (i : Int) := by omega
      have iq : (q : Int) + (lx : Int) ≤ (nB : Int) := by omega
      clear hb2 hq0 hq1 hsl hlx hnx hcl hwr hq hxx
      go_wp2_with fail
      go_loopw [5] (fun kk wq => ∃ k : Nat, k ≤ lx ∧ kk = .int .i64 (k : Int) ∧ wq.ownsRow W1.heap.size 5 1 (.slice (some ⟨g, 0, none⟩) nB cap) nB (Lib.byteCells (put1 cur q (x.take k))) ∧ Below W1.heap.size W1 wq) (fun kk _ => lx - (intOf kk).toNat)
      case atStart => exact ⟨0, by omega, rfl, by rw [List.take_zero, put1_nil]; exact HO.out, HB.out⟩
      case round =>
        obtain ⟨k, hkl, rfl, hor, hbr⟩ := hrel
        have HOK := Lib.hid hor
        have HBK := Lib.hid hbr
        clear hor hbr hx
        have hx := (HBK.out.cell (p := ⟨w.heap.size, 1, none⟩) (by show w.heap.size < W1.heap.size; have := HS1.out; omega)).trans HX.out
        have hq1 := (HBK.out.cell (p := ⟨b2, o2 + i * 2 + 1, none⟩) HQ.out.1).trans HQ.out.2.2
        by_cases hk : k < lx
        · have k1 : (k : Int) < (lx : Int) := by omega
          have k0 : (0 : Int) ≤ (k : Int) := by omega
          obtain ⟨K, hK⟩ : ∃ K, K = q + k := ⟨_, rfl⟩
          have iK : (q : Int) + (k : Int) = (K : Int) := by omega
          have iW : IntKind.i64.wrap (K : Int) = (K : Int) := IntWalk.i64_in _ (by omega)
          have k2 : (K : Int) < (nB : Int) := by omega
          have k3 : (0 : Int) ≤ (K : Int) := by omega
          obtain ⟨bd, od, rfl, hcd⟩ := sl_at HSL.out HLX.out.symm (by omega)
          have hgd := hcd k hk
          have HGD := Lib.hid (And.intro (World.block_lt_of_cell? _ _ hgd) hgd)
          have hkx : k < x.length := by have := HLX.out; omega
          have hlk : (x.take k).length = k := by rw [List.length_take]; omega
          have hset := put1_snoc cur q (x.take k) x[k] (by have := HCL.out; omega)
          rw [hlk, ← List.take_succ_eq_append_getElem hkx, ← hK] at hset
          have hgx : x.getD k 0 = x[k] := by simp [List.getD, List.getElem?_eq_getElem hkx]
          have hstored := HOK.out.stored K (.int .u8 ((x.getD k 0).toNat : Int))
          rw [byteCells_set, hgx, hset, ← hgx] at hstored
          have HST := Lib.hid hstored
          have cx := HOK.out.cellAt K (by omega)
          have hpl : K < (put1 cur q (x.take k)).length := by rw [put1_len (by rw [hlk]; have := HCL.out; omega)]; have := HCL.out; omega
          rw [byteCells_get, List.getElem?_eq_getElem hpl] at cx
          have cf := HOK.out.frozenAt K
          obtain ⟨z0, cz⟩ : ∃ z0, wr.cell? ⟨g, K, none⟩ = some z0 := ⟨_, cx⟩
          have HC := Lib.hid (And.intro cz cf)
          clear hcd hgd hset hgx hstored cx cz cf hlk hK hkx hpl
          generalize (x.getD k 0).toNat = z at HGD HST
          go_wp2_with fail
          have hd : Below W1.heap.size W1 wr.drew := HBK.out.drew
          refine wp_region_held_drew (S := fun W => Below W1.heap.size W1 W) (by kernel_rfl) hd (fun hHeld => ?_)
          clear hd hx hq1
          refine wpAnyH_take (i := 0) (oi := { dst := Option.some 28, op := Op.move (Operand.tmp 3), type := 24, pos := "ref.go:49", after := #[], guard := Option.none }) (v := .slice (some ⟨g, 0, none⟩) nB cap) rfl (by kernel_rfl) (by kernel_rfl) (by kernel_rfl) (fun _ _ _ h => h) (Or.inl ⟨by rfl, ?_⟩) hHeld ?_
          · intro W hSw
            have hx := (hSw.cell (p := ⟨w.heap.size, 1, none⟩) (by show w.heap.size < W1.heap.size; have := HS1.out; omega)).trans HX.out
            go_simp
          simp only [Act.put, List.setIfInBounds_toArray, List.set_cons_zero, List.set_cons_succ]
          refine wpAnyH_take (i := 1) (oi := { dst := Option.some 29, op := Op.fieldAddr 41 (Operand.tmp 1) 1, type := 0, pos := "ref.go:49", after := #[], guard := Option.none }) (v := .pointer (some ⟨w.heap.size, 1, none⟩)) rfl (by kernel_rfl) (by kernel_rfl) (by kernel_rfl) (fun _ _ _ h => h) (Or.inl ⟨by rfl, ?_⟩) hHeld ?_
          · intro W hSw
            have hx := (hSw.cell (p := ⟨w.heap.size, 1, none⟩) (by show w.heap.size < W1.heap.size; have := HS1.out; omega)).trans HX.out
            go_simp
          simp only [Act.put, List.setIfInBounds_toArray, List.set_cons_zero, List.set_cons_succ]
          refine wpAnyH_take (i := 2) (oi := { dst := Option.some 30, op := Op.load 39 (Operand.tmp 29), type := 39, pos := "ref.go:49", after := #[{ on := 1, ground := Ground.data }], guard := Option.none }) (v := .slice (some ⟨b2, o2, none⟩) nL cL) rfl (by kernel_rfl) (by kernel_rfl) (by kernel_rfl) (fun _ _ _ h => h) (Or.inl ⟨by rfl, ?_⟩) hHeld ?_
          · intro W hSw
            have hx := (hSw.cell (p := ⟨w.heap.size, 1, none⟩) (by show w.heap.size < W1.heap.size; have := HS1.out; omega)).trans HX.out
            go_simp
          simp only [Act.put, List.setIfInBounds_toArray, List.set_cons_zero, List.set_cons_succ]
          refine wpAnyH_take (i := 3) (oi := { dst := Option.some 31, op := Op.move (Operand.tmp 4), type := 3, pos := "ref.go:49", after := #[], guard := Option.none }) (v := .int .i64 (i : Int)) rfl (by kernel_rfl) (by kernel_rfl) (by kernel_rfl) (fun _ _ _ h => h) (Or.inl ⟨by rfl, ?_⟩) hHeld ?_
          · intro W hSw
            have hx := (hSw.cell (p := ⟨w.heap.size, 1, none⟩) (by show w.heap.size < W1.heap.size; have := HS1.out; omega)).trans HX.out
            go_simp
          simp only [Act.put, List.setIfInBounds_toArray, List.set_cons_zero, List.set_cons_succ]
          refine wpAnyH_take (i := 4) (oi := { dst := Option.some 32, op := Op.indexAddr 39 (Operand.tmp 30) (Operand.tmp 31), type := 0, pos := "ref.go:49", after := #[{ on := 2, ground := Ground.data }, { on := 3, ground := Ground.data }], guard := Option.none }) (v := .pointer (some ⟨b2, o2 + i * 2, none⟩)) rfl (by kernel_rfl) (by kernel_rfl) (by kernel_rfl) (fun _ _ _ h => h) (Or.inl ⟨by rfl, ?_⟩) hHeld ?_
          · intro W hSw
            have hx := (hSw.cell (p := ⟨w.heap.size, 1, none⟩) (by show w.heap.size < W1.heap.size; have := HS1.out; omega)).trans HX.out
            go_simp
          simp only [Act.put, List.setIfInBounds_toArray, List.set_cons_zero, List.set_cons_succ]
          refine wpAnyH_take (i := 5) (oi := { dst := Option.some 33, op := Op.fieldAddr 89 (Operand.tmp 32) 0, type := 0, pos := "ref.go:49", after := #[{ on := 4, ground := Ground.data }], guard := Option.none }) (v := .pointer (some ⟨b2, o2 + i * 2, none⟩)) rfl (by kernel_rfl) (by kernel_rfl) (by kernel_rfl) (fun _ _ _ h => h) (Or.inl ⟨by rfl, ?_⟩) hHeld ?_
          · intro W hSw
            have hx := (hSw.cell (p := ⟨w.heap.size, 1, none⟩) (by show w.heap.size < W1.heap.size; have := HS1.out; omega)).trans HX.out
            go_simp
          simp only [Act.put, List.setIfInBounds_toArray, List.set_cons_zero, List.set_cons_succ]
          refine wpAnyH_take (i := 6) (oi := { dst := Option.some 34, op := Op.load 3 (Operand.tmp 33), type := 3, pos := "ref.go:49", after := #[{ on := 5, ground := Ground.data }], guard := Option.none }) (v := .int .i64 (q : Int)) rfl (by kernel_rfl) (by kernel_rfl) (by kernel_rfl) (fun _ _ _ h => h) (Or.inl ⟨by rfl, ?_⟩) hHeld ?_
          · intro W hSw
            have hq := (hSw.cell (p := ⟨b2, o2 + i * 2, none⟩) HQ.out.1).trans HQ.out.2.1
            go_simp
          simp only [Act.put, List.setIfInBounds_toArray, List.set_cons_zero, List.set_cons_succ]
          refine wpAnyH_take (i := 7) (oi := { dst := Option.some 35, op := Op.move (Operand.tmp 5), type := 3, pos := "ref.go:49", after := #[], guard := Option.none }) (v := .int .i64 (k : Int)) rfl (by kernel_rfl) (by kernel_rfl) (by kernel_rfl) (fun _ _ _ h => h) (Or.inl ⟨by rfl, ?_⟩) hHeld ?_
          · intro W hSw
            have hq := (hSw.cell (p := ⟨b2, o2 + i * 2, none⟩) HQ.out.1).trans HQ.out.2.1
            go_simp
          simp only [Act.put, List.setIfInBounds_toArray, List.set_cons_zero, List.set_cons_succ]
          refine wpAnyH_take (i := 8) (oi := { dst := Option.some 36, op := Op.binOp BinOp.add 3 (Operand.tmp 34) (Operand.tmp 35) 3, type := 3, pos := "ref.go:49", after := #[{ on := 6, ground := Ground.data }, { on := 7, ground := Ground.data }], guard := Option.none }) (v := .int .i64 (K : Int)) rfl (by kernel_rfl) (by kernel_rfl) (by kernel_rfl) (fun _ _ _ h => h) (Or.inl ⟨by rfl, ?_⟩) hHeld ?_
          · intro W hSw
            have hq := (hSw.cell (p := ⟨b2, o2 + i * 2, none⟩) HQ.out.1).trans HQ.out.2.1
            go_simp
          simp only [Act.put, List.setIfInBounds_toArray, List.set_cons_zero, List.set_cons_succ]
          refine wpAnyH_take (i := 9) (oi := { dst := Option.some 37, op := Op.fieldAddr 41 (Operand.tmp 1) 1, type := 0, pos := "ref.go:49", after := #[], guard := Option.none }) (v := .pointer (some ⟨w.heap.size, 1, none⟩)) rfl (by kernel_rfl) (by kernel_rfl) (by kernel_rfl) (fun _ _ _ h => h) (Or.inl ⟨by rfl, ?_⟩) hHeld ?_
          · intro W hSw
            have hx := (hSw.cell (p := ⟨w.heap.size, 1, none⟩) (by show w.heap.size < W1.heap.size; have := HS1.out; omega)).trans HX.out
            go_simp
          simp only [Act.put, List.setIfInBounds_toArray, List.set_cons_zero, List.set_cons_succ]
          refine wpAnyH_take (i := 10) (oi := { dst := Option.some 38, op := Op.load 39 (Operand.tmp 37), type := 39, pos := "ref.go:49", after := #[{ on := 9, ground := Ground.data }], guard := Option.none }) (v := .slice (some ⟨b2, o2, none⟩) nL cL) rfl (by kernel_rfl) (by kernel_rfl) (by kernel_rfl) (fun _ _ _ h => h) (Or.inl ⟨by rfl, ?_⟩) hHeld ?_
          · intro W hSw
            have hx := (hSw.cell (p := ⟨w.heap.size, 1, none⟩) (by show w.heap.size < W1.heap.size; have := HS1.out; omega)).trans HX.out
            go_simp
          simp only [Act.put, List.setIfInBounds_toArray, List.set_cons_zero, List.set_cons_succ]
          refine wpAnyH_take (i := 11) (oi := { dst := Option.some 39, op := Op.move (Operand.tmp 4), type := 3, pos := "ref.go:49", after := #[], guard := Option.none }) (v := .int .i64 (i : Int)) rfl (by kernel_rfl) (by kernel_rfl) (by kernel_rfl) (fun _ _ _ h => h) (Or.inl ⟨by rfl, ?_⟩) hHeld ?_
          · intro W hSw
            have hx := (hSw.cell (p := ⟨w.heap.size, 1, none⟩) (by show w.heap.size < W1.heap.size; have := HS1.out; omega)).trans HX.out
            go_simp
          simp only [Act.put, List.setIfInBounds_toArray, List.set_cons_zero, List.set_cons_succ]
          refine wpAnyH_take (i := 12) (oi := { dst := Option.some 40, op := Op.indexAddr 39 (Operand.tmp 38) (Operand.tmp 39), type := 0, pos := "ref.go:49", after := #[{ on := 10, ground := Ground.data }, { on := 11, ground := Ground.data }], guard := Option.none }) (v := .pointer (some ⟨b2, o2 + i * 2, none⟩)) rfl (by kernel_rfl) (by kernel_rfl) (by kernel_rfl) (fun _ _ _ h => h) (Or.inl ⟨by rfl, ?_⟩) hHeld ?_
          · intro W hSw
            have hx := (hSw.cell (p := ⟨w.heap.size, 1, none⟩) (by show w.heap.size < W1.heap.size; have := HS1.out; omega)).trans HX.out
            go_simp
          simp only [Act.put, List.setIfInBounds_toArray, List.set_cons_zero, List.set_cons_succ]
          refine wpAnyH_take (i := 13) (oi := { dst := Option.some 41, op := Op.fieldAddr 89 (Operand.tmp 40) 1, type := 0, pos := "ref.go:49", after := #[{ on := 12, ground := Ground.data }], guard := Option.none }) (v := .pointer (some ⟨b2, o2 + i * 2 + 1, none⟩)) rfl (by kernel_rfl) (by kernel_rfl) (by kernel_rfl) (fun _ _ _ h => h) (Or.inl ⟨by rfl, ?_⟩) hHeld ?_
          · intro W hSw
            have hx := (hSw.cell (p := ⟨w.heap.size, 1, none⟩) (by show w.heap.size < W1.heap.size; have := HS1.out; omega)).trans HX.out
            go_simp
          simp only [Act.put, List.setIfInBounds_toArray, List.set_cons_zero, List.set_cons_succ]
          refine wpAnyH_take (i := 14) (oi := { dst := Option.some 42, op := Op.load 24 (Operand.tmp 41), type := 24, pos := "ref.go:49", after := #[{ on := 13, ground := Ground.data }], guard := Option.none }) (v := .slice (some ⟨bd, od, none⟩) lx cd) rfl (by kernel_rfl) (by kernel_rfl) (by kernel_rfl) (fun _ _ _ h => h) (Or.inl ⟨by rfl, ?_⟩) hHeld ?_
          · intro W hSw
            have hq := (hSw.cell (p := ⟨b2, o2 + i * 2 + 1, none⟩) HQ.out.1).trans HQ.out.2.2
            go_simp
          simp only [Act.put, List.setIfInBounds_toArray, List.set_cons_zero, List.set_cons_succ]
          refine wpAnyH_take (i := 15) (oi := { dst := Option.some 43, op := Op.move (Operand.tmp 5), type := 3, pos := "ref.go:49", after := #[], guard := Option.none }) (v := .int .i64 (k : Int)) rfl (by kernel_rfl) (by kernel_rfl) (by kernel_rfl) (fun _ _ _ h => h) (Or.inl ⟨by rfl, ?_⟩) hHeld ?_
          · intro W hSw
            have hq := (hSw.cell (p := ⟨b2, o2 + i * 2 + 1, none⟩) HQ.out.1).trans HQ.out.2.2
            go_simp
          simp only [Act.put, List.setIfInBounds_toArray, List.set_cons_zero, List.set_cons_succ]
          refine wpAnyH_take (i := 16) (oi := { dst := Option.some 44, op := Op.indexAddr 24 (Operand.tmp 42) (Operand.tmp 43), type := 0, pos := "ref.go:49", after := #[{ on := 14, ground := Ground.data }, { on := 15, ground := Ground.data }], guard := Option.none }) (v := .pointer (some ⟨bd, od + k, none⟩)) rfl (by kernel_rfl) (by kernel_rfl) (by kernel_rfl) (fun _ _ _ h => h) (Or.inl ⟨by rfl, ?_⟩) hHeld ?_
          · intro W hSw
            have hq := (hSw.cell (p := ⟨b2, o2 + i * 2 + 1, none⟩) HQ.out.1).trans HQ.out.2.2
            go_simp
          simp only [Act.put, List.setIfInBounds_toArray, List.set_cons_zero, List.set_cons_succ]
          refine wpAnyH_take (i := 17) (oi := { dst := Option.some 45, op := Op.load 5 (Operand.tmp 44), type := 5, pos := "ref.go:49", after := #[{ on := 16, ground := Ground.data }], guard := Option.none }) (v := .int .u8 (z : Int)) rfl (by kernel_rfl) (by kernel_rfl) (by kernel_rfl) (fun _ _ _ h => h) (Or.inl ⟨by rfl, ?_⟩) hHeld ?_
          · intro W hSw
            have hq := (hSw.cell (p := ⟨bd, od + k, none⟩) HGD.out.1).trans HGD.out.2
            go_simp
          simp only [Act.put, List.setIfInBounds_toArray, List.set_cons_zero, List.set_cons_succ]
          refine wpAnyH_take (i := 18) (oi := { dst := Option.some 46, op := Op.indexAddr 24 (Operand.tmp 28) (Operand.tmp 36), type := 0, pos := "ref.go:49", after := #[{ on := 0, ground := Ground.data }, { on := 8, ground := Ground.data }, { on := 0, ground := Ground.phase }, { on := 1, ground := Ground.phase }, { on := 2, ground := Ground.phase }, { on := 3, ground := Ground.phase }, { on := 4, ground := Ground.phase }, { on := 5, ground := Ground.phase }, { on := 6, ground := Ground.phase }, { on := 7, ground := Ground.phase }, { on := 8, ground := Ground.phase }, { on := 9, ground := Ground.phase }, { on := 10, ground := Ground.phase }, { on := 11, ground := Ground.phase }, { on := 12, ground := Ground.phase }, { on := 13, ground := Ground.phase }, { on := 14, ground := Ground.phase }, { on := 15, ground := Ground.phase }, { on := 16, ground := Ground.phase }, { on := 17, ground := Ground.phase }], guard := Option.none }) (v := .pointer (some ⟨g, K, none⟩)) rfl (by kernel_rfl) (by kernel_rfl) (by kernel_rfl) (fun _ _ _ h => h) (Or.inl ⟨by rfl, ?_⟩) hHeld ?_
          · intro W hSw
            have hq := (hSw.cell (p := ⟨bd, od + k, none⟩) HGD.out.1).trans HGD.out.2
            go_simp
          simp only [Act.put, List.setIfInBounds_toArray, List.set_cons_zero, List.set_cons_succ]
          have hc1 := HC.out.1
          have hc2 := HC.out.2
          refine wpAnyH_ready (rs := [19]) (by kernel_rfl) (by simp) ?_
          refine AllReadyH.cons (o := { dst := Option.none, op := Op.store 5 (Operand.tmp 46) (Operand.tmp 45), type := 0, pos := "ref.go:49", after := #[{ on := 18, ground := Ground.data }, { on := 17, ground := Ground.data }, { on := 0, ground := Ground.phase }, { on := 1, ground := Ground.phase }, { on := 2, ground := Ground.phase }, { on := 3, ground := Ground.phase }, { on := 4, ground := Ground.phase }, { on := 5, ground := Ground.phase }, { on := 6, ground := Ground.phase }, { on := 7, ground := Ground.phase }, { on := 8, ground := Ground.phase }, { on := 9, ground := Ground.phase }, { on := 10, ground := Ground.phase }, { on := 11, ground := Ground.phase }, { on := 12, ground := Ground.phase }, { on := 13, ground := Ground.phase }, { on := 14, ground := Ground.phase }, { on := 15, ground := Ground.phase }, { on := 16, ground := Ground.phase }, { on := 17, ground := Ground.phase }], guard := Option.none }) rfl (fun K hK => ?_) AllReadyH.nil
          go_simp
          have hbs := (HBK.out.grown HST.out.2 HBK.out.size (fun k hk => by injection hk with hk; have := HG.out.1; omega)).drew
          refine hK.out _ _ hbs (fun hHeld => ?_)
          clear hK K hHeld hc1 hc2
          have HBS := Lib.hid hbs
          clear hbs
          refine wpAnyH_done (by kernel_rfl) ?_ _
          go_wp2_with fail
          go_roundw
          case rel => exact ⟨k + 1, by omega, by go_num, HST.out.1.drew, HBS.out⟩
          case measure => simp [intOf]; omega
        · obtain rfl : lx = k := by omega
          have k1 : ¬ (lx : Int) < (lx : Int) := by omega
          have hxt : x.take lx = x := by rw [HLX.out]; exact List.take_length
          have HN2 := Lib.hid (show Lib.byteCells (nowL d.B (d.L.take (i + 1))) = Lib.byteCells (put1 cur q (x.take lx)) by rw [hxt, HNX.out])
          clear hxt
          go_wp2_with fail
          go_roundw
          case rel => exact ⟨i + 1, by omega, by go_num, by rw [HN2.out]; exact HOK.out, HBK.out⟩
          case measure => simp [intOf]; omega
    · obtain rfl : nL = i := by omega
      have hto : d.L.take nL = d.L := by rw [HNL.out]; exact List.take_length
      have ho := HO.out
      rw [hto] at ho
      have HF := Lib.hid ho
      clear hto ho
      go_wp2_with fail
      go_ret
      have hln : nB = (nowL d.B d.L).length := by have := HR.out.ok.now; have h2 := HNB.out; unfold Dk.now at this; omega
      have hf := HF.out
      rw [hln] at hf ⊢
      exact ⟨_, rfl, (SlT.of_own hf (fun k => w.heap.size ≤ k ∧ k < wr.heap.size) fun g' hg' => by have := hf.lt g' hg'; have := HS1.out; omega), HB1.out.trans (HB.out.mono (by have := HS1.out; omega))⟩

end Go.Proofs.YtlhagbcomnjnoaaDoor.pk
