/-
  The law's own comparison of entries and logs.
-/
import Derived.Test.YtlngcfaadfkbnaaDoorConG
namespace Go.Proofs.YtlngcfaadfkbnaaDoor.pk
open Go Go.RowKit
set_option maxRecDepth 100000

def entriesE (a b : List En) : Bool := decide (a.map encE = b.map encE)
theorem map_at {a b : List En} (h : a.map encE = b.map encE) {j : Nat} (ha : j < a.length) (hb : j < b.length) : encE a[j] = encE b[j] := by
  have h1 : (a.map encE)[j]? = (b.map encE)[j]? := by rw [h]
  rw [List.getElem?_map, List.getElem?_map, List.getElem?_eq_getElem ha, List.getElem?_eq_getElem hb] at h1
  simpa using h1
theorem map_of {a b : List En} (hl : a.length = b.length) (h : ∀ j (ha : j < a.length) (hb : j < b.length), encE a[j] = encE b[j]) : a.map encE = b.map encE := by
  refine List.ext_getElem (by simpa using hl) fun j h1 h2 => ?_
  simp only [List.getElem_map]
  exact h j _ _
theorem text_ne {a b : List UInt8} (h : a ≠ b) : ((⟨a.toArray⟩ : ByteArray).toList == (⟨b.toArray⟩ : ByteArray).toList) = false := by
  rw [beq_eq_false_iff_ne]
  simpa using h

set_option maxHeartbeats 8000000 in
theorem entries_any (C : ConG) (A : Option Addr) (n c : Nat) (a : List En) (A' : Option Addr) (n' c' : Nat) (b : List En) (w : World) (hg : StdG w) (h : Ents w (.slice A n c) a) (h' : Ents w (.slice A' n' c') b) (hs : SmallE 1000 100000 a) (hs' : SmallE 1000000 100000 b) (r : Bool) (hr : r = entriesE a b) :
    Calls Tryd.prog 25 #[.slice A n c, .slice A' n' c'] w fun y w' => y = .returned (.bool r) ∧ Below w.heap.size w w' := by
  obtain ⟨hn, hnc, hcm⟩ := h.len_
  obtain ⟨hn', hnc', hcm'⟩ := h'.len_
  have in1 : (n : Int) ≤ 9223372036854775807 := by omega
  have in2 : (n' : Int) ≤ 9223372036854775807 := by omega
  have HH := Lib.hid (And.intro h (And.intro h' (And.intro hn hn')))
  have HS := Lib.hid (And.intro hs (And.intro hs' hr))
  clear h h' hnc hnc' hcm hcm' hs hs' hr hn hn'
  by_cases hne : n = n'
  · obtain rfl : n = n' := hne
    go_enter Tryd.func25, Tryd.ntmps25
    go_wp2_with fail
    go_loopw [5] (fun ii wr => ∃ (j : Nat), j ≤ n ∧ ii = .int .i64 (j : Int) ∧ Below w.heap.size w wr ∧ Hid (∀ k (ha : k < a.length) (hb : k < b.length), k < j → encE a[k] = encE b[k])) (fun ii _ => n - (intOf ii).toNat)
    case atStart => exact ⟨0, Nat.zero_le _, rfl, Below.refl _ _, Lib.hid fun k _ _ hk => by omega⟩
    case round =>
      obtain ⟨j, hj, rfl, hbw, HE⟩ := hrel
      by_cases hlt : j < n
      · have ii : (j : Int) < (n : Int) := by omega
        have hka : j < a.length := by have := HH.out.2.2.1; omega
        have hkb : j < b.length := by have := HH.out.2.2.2; omega
        obtain ⟨ba, offa, Aa, ca, rfl, hba, hoka, q0, q1, q2, q3, hda⟩ := HH.out.1.at_ j hka
        obtain ⟨bb, offb, Ab, cb, rfl, hbb, hokb, r0, r1, r2, r3, hdb⟩ := HH.out.2.1.at_ j hkb
        have hsa := HS.out.1.2 _ (List.getElem_mem hka)
        have hsb := HS.out.2.1.2 _ (List.getElem_mem hkb)
        obtain ⟨x, hx⟩ : ∃ x, x = a[j] := ⟨_, rfl⟩
        obtain ⟨y, hy⟩ : ∃ y, y = b[j] := ⟨_, rfl⟩
        rw [← hx] at q0 q1 q2 q3 hda hsa
        rw [← hy] at r0 r1 r2 r3 hdb hsb
        obtain ⟨ma, hma⟩ : ∃ m, m = x.data.length := ⟨_, rfl⟩
        obtain ⟨mb, hmb⟩ : ∃ m, m = y.data.length := ⟨_, rfl⟩
        rw [← hma] at q3 hda hsa
        rw [← hmb] at r3 hdb hsb
        have hall : ∀ W, Below wr.heap.size wr W → (W.cell? ⟨ba, offa + j * 4, none⟩ = some (.int .i64 x.index) ∧ W.cell? ⟨ba, offa + j * 4 + 1, none⟩ = some (.int .i64 x.term) ∧ W.cell? ⟨ba, offa + j * 4 + 2, none⟩ = some (.int .i64 x.kind) ∧ W.cell? ⟨ba, offa + j * 4 + 3, none⟩ = some (.slice Aa ma ca)) ∧
            (W.cell? ⟨bb, offb + j * 4, none⟩ = some (.int .i64 y.index) ∧ W.cell? ⟨bb, offb + j * 4 + 1, none⟩ = some (.int .i64 y.term) ∧ W.cell? ⟨bb, offb + j * 4 + 2, none⟩ = some (.int .i64 y.kind) ∧ W.cell? ⟨bb, offb + j * 4 + 3, none⟩ = some (.slice Ab mb cb)) := fun W hW => by
          have hW' : Below w.heap.size w W := hbw.trans (hW.mono hbw.size)
          exact ⟨⟨(hW'.cell (p := ⟨ba, offa + j * 4, none⟩) hba).trans q0, (hW'.cell (p := ⟨ba, offa + j * 4 + 1, none⟩) hba).trans q1, (hW'.cell (p := ⟨ba, offa + j * 4 + 2, none⟩) hba).trans q2, (hW'.cell (p := ⟨ba, offa + j * 4 + 3, none⟩) hba).trans q3⟩,
            (hW'.cell (p := ⟨bb, offb + j * 4, none⟩) hbb).trans r0, (hW'.cell (p := ⟨bb, offb + j * 4 + 1, none⟩) hbb).trans r1, (hW'.cell (p := ⟨bb, offb + j * 4 + 2, none⟩) hbb).trans r2, (hW'.cell (p := ⟨bb, offb + j * 4 + 3, none⟩) hbb).trans r3⟩
        have HAL := Lib.hid hall
        obtain ⟨na, hna⟩ : ∃ m, m = (encE x).length := ⟨_, rfl⟩
        obtain ⟨nb, hnb⟩ : ∃ m, m = (encE y).length := ⟨_, rfl⟩
        have CA := Lib.hid fun W (hW : Below w.heap.size w W) => C.gEncode x Aa ma ca W (hg.below hW) (hda.below hW) hsa na hna
        have CB := Lib.hid fun W (hW : Below w.heap.size w W) => RefEncode_any y Ab mb cb W (hdb.below hW) (by omega) nb hnb
        have HXY := Lib.hid (And.intro hx hy)
        have HBW := Lib.hid hbw
        have hin : (j : Int) ≤ (n : Int) := by omega
        clear q0 q1 q2 q3 r0 r1 r2 r3 hda hdb hsa hsb hoka hokb hba hbb hx hy hall hna hnb hma hmb hbw
        go_upto_region 6 with fail
        have hd0 : Below wr.heap.size wr wr.drew := (Below.refl _ _).drew
        by_cases heq : encE x = encE y
        · have HEQ := Lib.hid heq
          obtain ⟨X1, hX1⟩ : ∃ X : ByteArray, X = ⟨(encE x).toArray⟩ := ⟨_, rfl⟩
          have hX2 : X1 = ⟨(encE y).toArray⟩ := by rw [hX1, heq]
          have HX1 := Lib.hid hX1
          have HX2 := Lib.hid hX2
          clear heq hX1 hX2
          refine wp_region_held_drew (S := fun W => Below wr.heap.size wr W) (by kernel_rfl) hd0 (fun hHeld => ?_)
          refine wpAnyH_take (i := 0) (oi := { dst := Option.some 17, op := Op.move (Operand.tmp 0), type := 27, pos := "law.go:48", after := #[], guard := Option.none }) (v := .slice (some ⟨ba, offa, none⟩) n c) rfl (by kernel_rfl) (by kernel_rfl) (by kernel_rfl) (fun _ _ _ h => h) (Or.inl ⟨by rfl, ?_⟩) hHeld ?_
          · intro W hSw
            obtain ⟨⟨z0, z1, z2, z3⟩, -⟩ := HAL.out _ hSw
            go_simp
          simp only [Act.put, List.setIfInBounds_toArray, List.set_cons_zero, List.set_cons_succ]
          refine wpAnyH_take (i := 1) (oi := { dst := Option.some 18, op := Op.move (Operand.tmp 5), type := 3, pos := "law.go:48", after := #[], guard := Option.none }) (v := .int .i64 (j : Int)) rfl (by kernel_rfl) (by kernel_rfl) (by kernel_rfl) (fun _ _ _ h => h) (Or.inl ⟨by rfl, ?_⟩) hHeld ?_
          · intro W hSw
            obtain ⟨⟨z0, z1, z2, z3⟩, -⟩ := HAL.out _ hSw
            go_simp
          simp only [Act.put, List.setIfInBounds_toArray, List.set_cons_zero, List.set_cons_succ]
          refine wpAnyH_take (i := 2) (oi := { dst := Option.some 19, op := Op.indexAddr 27 (Operand.tmp 17) (Operand.tmp 18), type := 0, pos := "law.go:48", after := #[{ on := 0, ground := Ground.data }, { on := 1, ground := Ground.data }], guard := Option.none }) (v := .pointer (some ⟨ba, offa + j * 4, none⟩)) rfl (by kernel_rfl) (by kernel_rfl) (by kernel_rfl) (fun _ _ _ h => h) (Or.inl ⟨by rfl, ?_⟩) hHeld ?_
          · intro W hSw
            obtain ⟨⟨z0, z1, z2, z3⟩, -⟩ := HAL.out _ hSw
            go_simp
          simp only [Act.put, List.setIfInBounds_toArray, List.set_cons_zero, List.set_cons_succ]
          refine wpAnyH_take (i := 3) (oi := { dst := Option.some 20, op := Op.load 41 (Operand.tmp 19), type := 41, pos := "law.go:48", after := #[{ on := 2, ground := Ground.data }], guard := Option.none }) (v := .agg #[.int .i64 x.index, .int .i64 x.term, .int .i64 x.kind, .slice Aa ma ca]) rfl (by kernel_rfl) (by kernel_rfl) (by kernel_rfl) (fun _ _ _ h => h) (Or.inl ⟨by rfl, ?_⟩) hHeld ?_
          · intro W hSw
            obtain ⟨⟨z0, z1, z2, z3⟩, -⟩ := HAL.out _ hSw
            go_simp
          simp only [Act.put, List.setIfInBounds_toArray, List.set_cons_zero, List.set_cons_succ]
          refine wpAnyH_take (i := 6) (oi := { dst := Option.some 23, op := Op.move (Operand.tmp 1), type := 22, pos := "law.go:48", after := #[], guard := Option.none }) (v := .slice (some ⟨bb, offb, none⟩) n c') rfl (by kernel_rfl) (by kernel_rfl) (by kernel_rfl) (fun _ _ _ h => h) (Or.inl ⟨by rfl, ?_⟩) hHeld ?_
          · intro W hSw
            obtain ⟨-, ⟨z0, z1, z2, z3⟩⟩ := HAL.out _ hSw
            go_simp
          simp only [Act.put, List.setIfInBounds_toArray, List.set_cons_zero, List.set_cons_succ]
          refine wpAnyH_take (i := 7) (oi := { dst := Option.some 24, op := Op.move (Operand.tmp 5), type := 3, pos := "law.go:48", after := #[], guard := Option.none }) (v := .int .i64 (j : Int)) rfl (by kernel_rfl) (by kernel_rfl) (by kernel_rfl) (fun _ _ _ h => h) (Or.inl ⟨by rfl, ?_⟩) hHeld ?_
          · intro W hSw
            obtain ⟨-, ⟨z0, z1, z2, z3⟩⟩ := HAL.out _ hSw
            go_simp
          simp only [Act.put, List.setIfInBounds_toArray, List.set_cons_zero, List.set_cons_succ]
          refine wpAnyH_take (i := 8) (oi := { dst := Option.some 25, op := Op.indexAddr 22 (Operand.tmp 23) (Operand.tmp 24), type := 0, pos := "law.go:48", after := #[{ on := 6, ground := Ground.data }, { on := 7, ground := Ground.data }], guard := Option.none }) (v := .pointer (some ⟨bb, offb + j * 4, none⟩)) rfl (by kernel_rfl) (by kernel_rfl) (by kernel_rfl) (fun _ _ _ h => h) (Or.inl ⟨by rfl, ?_⟩) hHeld ?_
          · intro W hSw
            obtain ⟨-, ⟨z0, z1, z2, z3⟩⟩ := HAL.out _ hSw
            go_simp
          simp only [Act.put, List.setIfInBounds_toArray, List.set_cons_zero, List.set_cons_succ]
          refine wpAnyH_take (i := 9) (oi := { dst := Option.some 26, op := Op.load 44 (Operand.tmp 25), type := 44, pos := "law.go:48", after := #[{ on := 8, ground := Ground.data }], guard := Option.none }) (v := .agg #[.int .i64 y.index, .int .i64 y.term, .int .i64 y.kind, .slice Ab mb cb]) rfl (by kernel_rfl) (by kernel_rfl) (by kernel_rfl) (fun _ _ _ h => h) (Or.inl ⟨by rfl, ?_⟩) hHeld ?_
          · intro W hSw
            obtain ⟨-, ⟨z0, z1, z2, z3⟩⟩ := HAL.out _ hSw
            go_simp
          simp only [Act.put, List.setIfInBounds_toArray, List.set_cons_zero, List.set_cons_succ]
          refine wpAnyH_ready (rs := [4]) (by kernel_rfl) (by simp) ?_
          refine AllReadyH.cons (o := { dst := Option.some 21, op := Op.call { callee := Callee.value (Operand.func 20), args := #[Operand.tmp 20], argTypes := #[41] }, type := 39, pos := "law.go:48", after := #[{ on := 3, ground := Ground.data }], guard := Option.none }) rfl (fun K hK => ?_) AllReadyH.nil
          go_simp
          refine (CA.out _ (HBW.out.trans (hd0.mono HBW.out.size))).mono ?_
          rintro y1 w1 ⟨A1, c1, rfl, hi1, hb1⟩
          have hb1 : Below wr.heap.size wr w1 := hd0.trans hb1
          refine hK.out _ _ hb1 (fun hHeld2 => ?_)
          clear hK K hHeld hHeld2
          have H1 := Lib.hid (And.intro hi1 hb1)
          refine wpAnyH_strong (S' := fun W => Below w1.heap.size w1 W) (fun W hW => H1.out.2.trans (hW.mono H1.out.2.size)) _ _ _ _ ?_
          have hHeld : Below w1.heap.size w1 w1 := Below.refl _ _
          clear hi1 hb1
          refine wpAnyH_take (i := 5) (oi := { dst := Option.some 22, op := Op.convert 39 9 (Operand.tmp 21), type := 9, pos := "law.go:48", after := #[{ on := 4, ground := Ground.data }], guard := Option.none }) (v := .string X1) rfl (by kernel_rfl) (by kernel_rfl) (by kernel_rfl) (fun _ _ _ h => h) (Or.inl ⟨by rfl, ?_⟩) hHeld ?_
          · intro W hSw
            have hv := conv_bytes (H1.out.1.below hSw).sl_; (try rw [← HX1.out] at hv); (try rw [← HX2.out] at hv)
            go_simp
          simp only [Act.put, List.setIfInBounds_toArray, List.set_cons_zero, List.set_cons_succ]
          refine wpAnyH_ready (rs := [10]) (by kernel_rfl) (by simp) ?_
          refine AllReadyH.cons (o := { dst := Option.some 27, op := Op.call { callee := Callee.value (Operand.func 21), args := #[Operand.tmp 26], argTypes := #[44] }, type := 39, pos := "law.go:48", after := #[{ on := 9, ground := Ground.data }, { on := 4, ground := Ground.chain }], guard := Option.none }) rfl (fun K hK => ?_) AllReadyH.nil
          go_simp
          refine (CB.out _ (HBW.out.trans (H1.out.2.mono HBW.out.size))).mono ?_
          rintro y2 w2 ⟨A2, c2, rfl, hi2, hb2⟩
          refine hK.out _ _ hb2 (fun hHeld2 => ?_)
          clear hK K hHeld hHeld2
          have H2 := Lib.hid (And.intro hi2 (H1.out.2.trans (hb2.mono H1.out.2.size)))
          have H3 := Lib.hid hb2
          refine wpAnyH_strong (S' := fun W => Below w2.heap.size w2 W) (fun W hW => H3.out.trans (hW.mono H3.out.size)) _ _ _ _ ?_
          have hHeld : Below w2.heap.size w2 w2 := Below.refl _ _
          clear hi2 hb2
          refine wpAnyH_take (i := 11) (oi := { dst := Option.some 28, op := Op.convert 39 9 (Operand.tmp 27), type := 9, pos := "law.go:48", after := #[{ on := 10, ground := Ground.data }], guard := Option.none }) (v := .string X1) rfl (by kernel_rfl) (by kernel_rfl) (by kernel_rfl) (fun _ _ _ h => h) (Or.inl ⟨by rfl, ?_⟩) hHeld ?_
          · intro W hSw
            have hv := conv_bytes (H2.out.1.below hSw).sl_; (try rw [← HX1.out] at hv); (try rw [← HX2.out] at hv)
            go_simp
          simp only [Act.put, List.setIfInBounds_toArray, List.set_cons_zero, List.set_cons_succ]
          refine wpAnyH_take (i := 12) (oi := { dst := Option.some 29, op := Op.binOp BinOp.neq 9 (Operand.tmp 22) (Operand.tmp 28) 9, type := 4, pos := "law.go:48", after := #[{ on := 5, ground := Ground.data }, { on := 11, ground := Ground.data }], guard := Option.none }) (v := .bool false) rfl (by kernel_rfl) (by kernel_rfl) (by kernel_rfl) (fun _ _ _ h => h) (Or.inl ⟨by rfl, ?_⟩) hHeld ?_
          · intro W hSw
            go_simp
          simp only [Act.put, List.setIfInBounds_toArray, List.set_cons_zero, List.set_cons_succ]
          clear hHeld
          have HB := Lib.hid (HBW.out.trans (H2.out.2.mono HBW.out.size))
          refine wpAnyH_done (by kernel_rfl) ?_ _
          go_wp2_with fail
          go_roundw
          case rel =>
            refine ⟨j + 1, by omega, by go_num, HB.out, Lib.hid fun k ha hb hk => ?_⟩
            by_cases hkj : k < j
            · exact HE.out k ha hb hkj
            · obtain rfl : k = j := by omega
              rw [← HXY.out.1, ← HXY.out.2]
              exact HEQ.out
          case measure => simp [intOf]; omega
        · have HNE := Lib.hid heq
          have hne := text_ne heq
          obtain ⟨X1, hX1⟩ : ∃ X : ByteArray, X = ⟨(encE x).toArray⟩ := ⟨_, rfl⟩
          obtain ⟨X2, hX2⟩ : ∃ X : ByteArray, X = ⟨(encE y).toArray⟩ := ⟨_, rfl⟩
          rw [← hX1, ← hX2] at hne
          have HX1 := Lib.hid hX1
          have HX2 := Lib.hid hX2
          clear heq hX1 hX2
          refine wp_region_held_drew (S := fun W => Below wr.heap.size wr W) (by kernel_rfl) hd0 (fun hHeld => ?_)
          refine wpAnyH_take (i := 0) (oi := { dst := Option.some 17, op := Op.move (Operand.tmp 0), type := 27, pos := "law.go:48", after := #[], guard := Option.none }) (v := .slice (some ⟨ba, offa, none⟩) n c) rfl (by kernel_rfl) (by kernel_rfl) (by kernel_rfl) (fun _ _ _ h => h) (Or.inl ⟨by rfl, ?_⟩) hHeld ?_
          · intro W hSw
            obtain ⟨⟨z0, z1, z2, z3⟩, -⟩ := HAL.out _ hSw
            go_simp
          simp only [Act.put, List.setIfInBounds_toArray, List.set_cons_zero, List.set_cons_succ]
          refine wpAnyH_take (i := 1) (oi := { dst := Option.some 18, op := Op.move (Operand.tmp 5), type := 3, pos := "law.go:48", after := #[], guard := Option.none }) (v := .int .i64 (j : Int)) rfl (by kernel_rfl) (by kernel_rfl) (by kernel_rfl) (fun _ _ _ h => h) (Or.inl ⟨by rfl, ?_⟩) hHeld ?_
          · intro W hSw
            obtain ⟨⟨z0, z1, z2, z3⟩, -⟩ := HAL.out _ hSw
            go_simp
          simp only [Act.put, List.setIfInBounds_toArray, List.set_cons_zero, List.set_cons_succ]
          refine wpAnyH_take (i := 2) (oi := { dst := Option.some 19, op := Op.indexAddr 27 (Operand.tmp 17) (Operand.tmp 18), type := 0, pos := "law.go:48", after := #[{ on := 0, ground := Ground.data }, { on := 1, ground := Ground.data }], guard := Option.none }) (v := .pointer (some ⟨ba, offa + j * 4, none⟩)) rfl (by kernel_rfl) (by kernel_rfl) (by kernel_rfl) (fun _ _ _ h => h) (Or.inl ⟨by rfl, ?_⟩) hHeld ?_
          · intro W hSw
            obtain ⟨⟨z0, z1, z2, z3⟩, -⟩ := HAL.out _ hSw
            go_simp
          simp only [Act.put, List.setIfInBounds_toArray, List.set_cons_zero, List.set_cons_succ]
          refine wpAnyH_take (i := 3) (oi := { dst := Option.some 20, op := Op.load 41 (Operand.tmp 19), type := 41, pos := "law.go:48", after := #[{ on := 2, ground := Ground.data }], guard := Option.none }) (v := .agg #[.int .i64 x.index, .int .i64 x.term, .int .i64 x.kind, .slice Aa ma ca]) rfl (by kernel_rfl) (by kernel_rfl) (by kernel_rfl) (fun _ _ _ h => h) (Or.inl ⟨by rfl, ?_⟩) hHeld ?_
          · intro W hSw
            obtain ⟨⟨z0, z1, z2, z3⟩, -⟩ := HAL.out _ hSw
            go_simp
          simp only [Act.put, List.setIfInBounds_toArray, List.set_cons_zero, List.set_cons_succ]
          refine wpAnyH_take (i := 6) (oi := { dst := Option.some 23, op := Op.move (Operand.tmp 1), type := 22, pos := "law.go:48", after := #[], guard := Option.none }) (v := .slice (some ⟨bb, offb, none⟩) n c') rfl (by kernel_rfl) (by kernel_rfl) (by kernel_rfl) (fun _ _ _ h => h) (Or.inl ⟨by rfl, ?_⟩) hHeld ?_
          · intro W hSw
            obtain ⟨-, ⟨z0, z1, z2, z3⟩⟩ := HAL.out _ hSw
            go_simp
          simp only [Act.put, List.setIfInBounds_toArray, List.set_cons_zero, List.set_cons_succ]
          refine wpAnyH_take (i := 7) (oi := { dst := Option.some 24, op := Op.move (Operand.tmp 5), type := 3, pos := "law.go:48", after := #[], guard := Option.none }) (v := .int .i64 (j : Int)) rfl (by kernel_rfl) (by kernel_rfl) (by kernel_rfl) (fun _ _ _ h => h) (Or.inl ⟨by rfl, ?_⟩) hHeld ?_
          · intro W hSw
            obtain ⟨-, ⟨z0, z1, z2, z3⟩⟩ := HAL.out _ hSw
            go_simp
          simp only [Act.put, List.setIfInBounds_toArray, List.set_cons_zero, List.set_cons_succ]
          refine wpAnyH_take (i := 8) (oi := { dst := Option.some 25, op := Op.indexAddr 22 (Operand.tmp 23) (Operand.tmp 24), type := 0, pos := "law.go:48", after := #[{ on := 6, ground := Ground.data }, { on := 7, ground := Ground.data }], guard := Option.none }) (v := .pointer (some ⟨bb, offb + j * 4, none⟩)) rfl (by kernel_rfl) (by kernel_rfl) (by kernel_rfl) (fun _ _ _ h => h) (Or.inl ⟨by rfl, ?_⟩) hHeld ?_
          · intro W hSw
            obtain ⟨-, ⟨z0, z1, z2, z3⟩⟩ := HAL.out _ hSw
            go_simp
          simp only [Act.put, List.setIfInBounds_toArray, List.set_cons_zero, List.set_cons_succ]
          refine wpAnyH_take (i := 9) (oi := { dst := Option.some 26, op := Op.load 44 (Operand.tmp 25), type := 44, pos := "law.go:48", after := #[{ on := 8, ground := Ground.data }], guard := Option.none }) (v := .agg #[.int .i64 y.index, .int .i64 y.term, .int .i64 y.kind, .slice Ab mb cb]) rfl (by kernel_rfl) (by kernel_rfl) (by kernel_rfl) (fun _ _ _ h => h) (Or.inl ⟨by rfl, ?_⟩) hHeld ?_
          · intro W hSw
            obtain ⟨-, ⟨z0, z1, z2, z3⟩⟩ := HAL.out _ hSw
            go_simp
          simp only [Act.put, List.setIfInBounds_toArray, List.set_cons_zero, List.set_cons_succ]
          refine wpAnyH_ready (rs := [4]) (by kernel_rfl) (by simp) ?_
          refine AllReadyH.cons (o := { dst := Option.some 21, op := Op.call { callee := Callee.value (Operand.func 20), args := #[Operand.tmp 20], argTypes := #[41] }, type := 39, pos := "law.go:48", after := #[{ on := 3, ground := Ground.data }], guard := Option.none }) rfl (fun K hK => ?_) AllReadyH.nil
          go_simp
          refine (CA.out _ (HBW.out.trans (hd0.mono HBW.out.size))).mono ?_
          rintro y1 w1 ⟨A1, c1, rfl, hi1, hb1⟩
          have hb1 : Below wr.heap.size wr w1 := hd0.trans hb1
          refine hK.out _ _ hb1 (fun hHeld2 => ?_)
          clear hK K hHeld hHeld2
          have H1 := Lib.hid (And.intro hi1 hb1)
          refine wpAnyH_strong (S' := fun W => Below w1.heap.size w1 W) (fun W hW => H1.out.2.trans (hW.mono H1.out.2.size)) _ _ _ _ ?_
          have hHeld : Below w1.heap.size w1 w1 := Below.refl _ _
          clear hi1 hb1
          refine wpAnyH_take (i := 5) (oi := { dst := Option.some 22, op := Op.convert 39 9 (Operand.tmp 21), type := 9, pos := "law.go:48", after := #[{ on := 4, ground := Ground.data }], guard := Option.none }) (v := .string X1) rfl (by kernel_rfl) (by kernel_rfl) (by kernel_rfl) (fun _ _ _ h => h) (Or.inl ⟨by rfl, ?_⟩) hHeld ?_
          · intro W hSw
            have hv := conv_bytes (H1.out.1.below hSw).sl_; (try rw [← HX1.out] at hv); (try rw [← HX2.out] at hv)
            go_simp
          simp only [Act.put, List.setIfInBounds_toArray, List.set_cons_zero, List.set_cons_succ]
          refine wpAnyH_ready (rs := [10]) (by kernel_rfl) (by simp) ?_
          refine AllReadyH.cons (o := { dst := Option.some 27, op := Op.call { callee := Callee.value (Operand.func 21), args := #[Operand.tmp 26], argTypes := #[44] }, type := 39, pos := "law.go:48", after := #[{ on := 9, ground := Ground.data }, { on := 4, ground := Ground.chain }], guard := Option.none }) rfl (fun K hK => ?_) AllReadyH.nil
          go_simp
          refine (CB.out _ (HBW.out.trans (H1.out.2.mono HBW.out.size))).mono ?_
          rintro y2 w2 ⟨A2, c2, rfl, hi2, hb2⟩
          refine hK.out _ _ hb2 (fun hHeld2 => ?_)
          clear hK K hHeld hHeld2
          have H2 := Lib.hid (And.intro hi2 (H1.out.2.trans (hb2.mono H1.out.2.size)))
          have H3 := Lib.hid hb2
          refine wpAnyH_strong (S' := fun W => Below w2.heap.size w2 W) (fun W hW => H3.out.trans (hW.mono H3.out.size)) _ _ _ _ ?_
          have hHeld : Below w2.heap.size w2 w2 := Below.refl _ _
          clear hi2 hb2
          refine wpAnyH_take (i := 11) (oi := { dst := Option.some 28, op := Op.convert 39 9 (Operand.tmp 27), type := 9, pos := "law.go:48", after := #[{ on := 10, ground := Ground.data }], guard := Option.none }) (v := .string X2) rfl (by kernel_rfl) (by kernel_rfl) (by kernel_rfl) (fun _ _ _ h => h) (Or.inl ⟨by rfl, ?_⟩) hHeld ?_
          · intro W hSw
            have hv := conv_bytes (H2.out.1.below hSw).sl_; (try rw [← HX1.out] at hv); (try rw [← HX2.out] at hv)
            go_simp
          simp only [Act.put, List.setIfInBounds_toArray, List.set_cons_zero, List.set_cons_succ]
          refine wpAnyH_take (i := 12) (oi := { dst := Option.some 29, op := Op.binOp BinOp.neq 9 (Operand.tmp 22) (Operand.tmp 28) 9, type := 4, pos := "law.go:48", after := #[{ on := 5, ground := Ground.data }, { on := 11, ground := Ground.data }], guard := Option.none }) (v := .bool true) rfl (by kernel_rfl) (by kernel_rfl) (by kernel_rfl) (fun _ _ _ h => h) (Or.inl ⟨by rfl, ?_⟩) hHeld ?_
          · intro W hSw
            go_simp
          simp only [Act.put, List.setIfInBounds_toArray, List.set_cons_zero, List.set_cons_succ]
          clear hHeld
          have HB := Lib.hid (HBW.out.trans (H2.out.2.mono HBW.out.size))
          refine wpAnyH_done (by kernel_rfl) ?_ _
          go_wp2_with fail
          go_ret
          exact ⟨ret_bool (by
            rw [HS.out.2.2]
            unfold entriesE
            rw [decide_eq_false]
            intro hm
            have h1 := map_at hm hka hkb
            rw [← HXY.out.1, ← HXY.out.2] at h1
            exact HNE.out h1), HB.out⟩
      · obtain rfl : j = n := by omega
        have ii : ¬ (j : Int) < (j : Int) := by omega
        go_wp2_with fail
        go_ret
        refine ⟨ret_bool ?_, hbw⟩
        rw [HS.out.2.2]
        unfold entriesE
        rw [decide_eq_true]
        exact map_of (by rw [← HH.out.2.2.1, ← HH.out.2.2.2]) fun k ha hb => HE.out k ha hb (by have := HH.out.2.2.1; omega)
  · have hne' : ¬ (n : Int) = (n' : Int) := by omega
    have HR := Lib.hid (show r = false by
      rw [HS.out.2.2]
      unfold entriesE
      rw [decide_eq_false]
      intro hm
      have h1 := congrArg List.length hm
      simp only [List.length_map] at h1
      have := HH.out.2.2.1
      have := HH.out.2.2.2
      omega)
    have hz : ((n : Int) == (n' : Int)) = false := beq_eq_false_iff_ne.2 hne'
    clear hne hne'
    go_enter Tryd.func25, Tryd.ntmps25
    go_wp2_with fail
    go_ret
    exact ⟨ret_bool HR.out.symm, Below.refl _ _⟩

def sameE (l l' : Lg) : Bool := decide (l.base = l'.base ∧ l.term = l'.term) && entriesE l.l l'.l
theorem entriesE_refl (a : List En) : entriesE a a = true := decide_eq_true rfl
theorem sameE_refl (l : Lg) : sameE l l = true := by unfold sameE; rw [entriesE_refl, decide_eq_true ⟨rfl, rfl⟩]; rfl

set_option maxHeartbeats 8000000 in
theorem sameLog_any (C : ConG) (l : Lg) (A : Option Addr) (n c : Nat) (l' : Lg) (A' : Option Addr) (n' c' : Nat) (w : World) (hg : StdG w) (h : Ents w (.slice A n c) l.l) (h' : Ents w (.slice A' n' c') l'.l) (hs : SmallE 1000 100000 l.l) (hs' : SmallE 1000000 100000 l'.l) (r : Bool) (hr : r = sameE l l') :
    Calls Tryd.prog 24 #[.agg #[.int .i64 l.base, .int .i64 l.term, .slice A n c], .agg #[.int .i64 l'.base, .int .i64 l'.term, .slice A' n' c']] w fun y w' => y = .returned (.bool r) ∧ Below w.heap.size w w' := by
  obtain ⟨W1, g, g2, hW1, hgg, hg2, hb1, hq, hq2, hsz⟩ := two_box w (.cells #[.int .i64 l.base, .int .i64 l.term, .slice A n c] 29) (.cells #[.int .i64 l'.base, .int .i64 l'.term, .slice A' n' c'] 24)
  have HW := Lib.hid (And.intro hW1 (And.intro hgg hg2))
  obtain ⟨x0, x1, x2⟩ := cells3 hq
  obtain ⟨y0, y1, y2⟩ := cells3 hq2
  have HB := Lib.hid hb1
  have CE := Lib.hid (entries_any C A n c l.l A' n' c' l'.l W1 (hg.below hb1) (h.below hb1) (h'.below hb1) hs hs' _ rfl)
  obtain ⟨base, tm, es⟩ := l
  obtain ⟨base', tm', es'⟩ := l'
  have HR := Lib.hid hr
  simp only at x0 x1 x2 y0 y1 y2 HW HR CE ⊢
  clear h h' hs hs' hr hW1 hgg hg2 hb1 hq hq2 hsz
  by_cases h1 : base = base'
  · subst h1
    by_cases h2 : tm = tm'
    · subst h2
      have HR2 := Lib.hid (show r = entriesE es es' by rw [HR.out]; unfold sameE; rw [decide_eq_true ⟨rfl, rfl⟩, Bool.true_and])
      clear HR
      go_enter Tryd.func24, Tryd.ntmps24
      go_upto_region 1 with fail
      rw [← HW.out.1, ← HW.out.2.1, ← HW.out.2.2]
      go_wp2_with (go_at_call 25; go_must (refine CE.out.mono ?_; rintro y w1 ⟨rfl, hb1⟩; have HB2 := Lib.hid (HB.out.trans (hb1.mono HB.out.size)); clear hb1))
      go_ret
      exact ⟨ret_bool HR2.out.symm, HB2.out⟩
    · have HR2 := Lib.hid (show r = false by rw [HR.out]; unfold sameE; rw [decide_eq_false (fun h => h2 h.2), Bool.false_and])
      have hz : (tm == tm') = false := beq_eq_false_iff_ne.2 h2
      clear HR
      go_enter Tryd.func24, Tryd.ntmps24
      go_upto_region 1 with fail
      rw [← HW.out.1, ← HW.out.2.1, ← HW.out.2.2]
      go_wp2_with fail
      go_ret
      exact ⟨ret_bool HR2.out.symm, HB.out⟩
  · have HR2 := Lib.hid (show r = false by rw [HR.out]; unfold sameE; rw [decide_eq_false (fun h => h1 h.1), Bool.false_and])
    have hz : (base == base') = false := beq_eq_false_iff_ne.2 h1
    clear HR
    go_enter Tryd.func24, Tryd.ntmps24
    go_upto_region 1 with fail
    rw [← HW.out.1, ← HW.out.2.1, ← HW.out.2.2]
    go_wp2_with fail
    go_ret
    exact ⟨ret_bool HR2.out.symm, HB.out⟩

end Go.Proofs.YtlngcfaadfkbnaaDoor.pk
