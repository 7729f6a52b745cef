/-
  Texts of the proof, joined: GivM, LayM, Mem, Ref, Ref2, Ref3, RdU, RdB, RdC.
-/
import Derived.Test.YtfblgkcipnkhaaaGreatDoorJa
import Derived.Deep.QuietTactic
import Derived.BigQuiet
import Derived.IntWalk
import Derived.Outline
import Derived.RegionTactic
import Derived.Deep.CutBlock
import Derived.Lib.AppendStr
import Derived.Deep.Strs
import Derived.Laws.ResultCell
import Derived.Laws.Rows
import Derived.Laws.NewBlocks
import Derived.Laws.NewDeep

/-
  The law's own copies of entries: giveEntry, giveEntries; longEntries.
-/
namespace Go.Proofs.YtfblgkcipnkhaaaGreatDoor.pk
open Go Go.RowKit
set_option maxRecDepth 100000

theorem below_round {w wr w' : World} (h : Below w.heap.size w wr) (hb : Below wr.heap.size wr w') : Below w.heap.size w w' := h.trans (hb.mono h.size)
theorem ret_bool {a b : Bool} (h : a = b) : Ending.returned (.bool a) = Ending.returned (.bool b) := by rw [h]
/-- A step of a region that draws its order, out of the operation's own law. -/
theorem step_op' {P : Program} {ops : Array Oper} {o : Oper} {a : Act} {w : World} {K : Act → World → Prop} {Q : Exit → Act → World → Prop} {E : Prop} (hgd : o.guard = none) (h : Oper.wp P o a w K Q) : if Region.wanted o (yielded ops a.tmps) = true then Oper.wp P o a w K Q else E := by
  rw [if_pos (by simp [Region.wanted, hgd])]
  exact h
/-- Bytes onto a row of one's own, as one operation. -/
theorem wp_joinB {w : World} {B : Nat} {v : Value} {xs : List UInt8} {o : Oper} {a : Act} {K : Act → World → Prop} {Q : Exit → Act → World → Prop} (hown : w.ownsRow B 5 1 v xs.length (Lib.byteCells xs)) (s x : Operand)
    (ho : o.op = .call { callee := .builtin .append, args := #[s, x], argTypes := #[22, 22] }) (hs : a.eval s = v) (A : Option Addr) (n c : Nat) (hx : a.eval x = .slice A n c) (ys : List UInt8)
    (hy : Bys w (.slice A n c) ys) (hl : xs.length + n < 100000000000) (hB : B ≤ w.heap.size)
    (hK : ∀ v' w', w'.ownsRow B 5 1 v' (xs ++ ys).length (Lib.byteCells (xs ++ ys)) → w.grownBy w' v.ownBlock → K (a.put o.dst v') w') : o.wp Tryz.prog a w K Q := by
  obtain ⟨i0, hi, hz0, hz1, hz2⟩ := info_three info_byte
  have hn := hy.len_
  refine wp_append_sl s x 22 ho B 5 i0 _ Tryz.underlying22 hi hz0 hz1 hz2 rfl v xs.length _ hs hown w.heap.size A n c ys hx hy.sl_ (by omega) hB ?_
  intro v' w' h1 h2
  refine hK v' w' ?_ h2
  rw [List.length_append, show Lib.byteCells (xs ++ ys) = Lib.byteCells xs ++ Lib.byteCells ys from by simp [Lib.byteCells]]
  exact h1

set_option maxHeartbeats 4000000 in
theorem giveEntry_any (e : En) (A : Option Addr) (n c : Nat) (w : World) (h : Bys w (.slice A n c) e.data) (hs : n ≤ 1000000000) :
    Calls Tryz.prog 73 #[.agg #[.int .i64 e.index, .int .i64 e.term, .int .i64 e.kind, .slice A n c]] w fun y w' => ∃ A1 c1, y = .returned (.agg #[.int .i64 e.index, .int .i64 e.term, .int .i64 e.kind, .slice A1 n c1]) ∧ SlT w' (fun q => w.heap.size ≤ q ∧ q < w'.heap.size) (.slice A1 n c1) e.data ∧ Below w.heap.size w w' := by
  have hn := h.len_
  obtain ⟨W1, g, g2, hW1, hg, hg2, hb1, hq, hq2, hsz⟩ := two_box w (.cells #[.int .i64 e.index, .int .i64 e.term, .int .i64 e.kind, .slice A n c] 71) (.cells #[.int .i64 0, .int .i64 0, .int .i64 0, .slice none 0 0] 57)
  have HW := Lib.hid (And.intro hW1 (And.intro hg hg2))
  have HE := Lib.hid (And.intro hb1 (And.intro hq (And.intro hq2 (And.intro (show w.heap.size ≤ g2 by omega) hsz))))
  have HN := Lib.hid (And.intro h (And.intro hn hs))
  have hres : Tryz.f73.results = #[.cell 2 57] := by kernel_rfl
  clear h hn hs hW1 hb1 hq hq2 hg hg2 hsz
  go_enter Tryz.func73, Tryz.ntmps73
  go_upto_region 1 with fail
  rw [← HW.out.1, ← HW.out.2.1, ← HW.out.2.2]
  go_upto_region 2 with fail
  have hd0 : Below g2 W1 W1.drew := (Below.refl _ _).drew
  have hlt : g < g2 := by have := HW.out.2.2; omega
  have HLT := Lib.hid hlt
  refine wp_region_held_drew (S := fun W => Below g2 W1 W) (by kernel_rfl) hd0 (fun hHeld => ?_)
  clear hd0
  refine wpAnyH_take (i := 0) (oi := { dst := Option.some 4, op := Op.fieldAddr 71 (Operand.tmp 1) 0, type := 0, pos := "law.go:30", after := #[], guard := Option.none }) (v := .pointer (some ⟨g, 0, none⟩)) rfl (by kernel_rfl) (by kernel_rfl) (by kernel_rfl) (fun _ _ _ h => h) (Or.inl ⟨by rfl, ?_⟩) hHeld ?_
  · intro W hSw
    obtain ⟨z0, z1, z2, z3⟩ := cells4 ((hSw.block g HLT.out).trans HE.out.2.1)
    go_simp
  simp only [Act.put, List.setIfInBounds_toArray, List.set_cons_zero, List.set_cons_succ]
  refine wpAnyH_take (i := 1) (oi := { dst := Option.some 5, op := Op.load 3 (Operand.tmp 4), type := 3, pos := "law.go:30", after := #[{ on := 0, ground := Ground.data }], guard := Option.none }) (v := .int .i64 e.index) rfl (by kernel_rfl) (by kernel_rfl) (by kernel_rfl) (fun _ _ _ h => h) (Or.inl ⟨by rfl, ?_⟩) hHeld ?_
  · intro W hSw
    obtain ⟨z0, z1, z2, z3⟩ := cells4 ((hSw.block g HLT.out).trans HE.out.2.1)
    go_simp
  simp only [Act.put, List.setIfInBounds_toArray, List.set_cons_zero, List.set_cons_succ]
  refine wpAnyH_take (i := 2) (oi := { dst := Option.some 6, op := Op.fieldAddr 71 (Operand.tmp 1) 1, type := 0, pos := "law.go:30", after := #[], guard := Option.none }) (v := .pointer (some ⟨g, 1, none⟩)) rfl (by kernel_rfl) (by kernel_rfl) (by kernel_rfl) (fun _ _ _ h => h) (Or.inl ⟨by rfl, ?_⟩) hHeld ?_
  · intro W hSw
    obtain ⟨z0, z1, z2, z3⟩ := cells4 ((hSw.block g HLT.out).trans HE.out.2.1)
    go_simp
  simp only [Act.put, List.setIfInBounds_toArray, List.set_cons_zero, List.set_cons_succ]
  refine wpAnyH_take (i := 3) (oi := { dst := Option.some 7, op := Op.load 3 (Operand.tmp 6), type := 3, pos := "law.go:30", after := #[{ on := 2, ground := Ground.data }], guard := Option.none }) (v := .int .i64 e.term) rfl (by kernel_rfl) (by kernel_rfl) (by kernel_rfl) (fun _ _ _ h => h) (Or.inl ⟨by rfl, ?_⟩) hHeld ?_
  · intro W hSw
    obtain ⟨z0, z1, z2, z3⟩ := cells4 ((hSw.block g HLT.out).trans HE.out.2.1)
    go_simp
  simp only [Act.put, List.setIfInBounds_toArray, List.set_cons_zero, List.set_cons_succ]
  refine wpAnyH_take (i := 4) (oi := { dst := Option.some 8, op := Op.fieldAddr 71 (Operand.tmp 1) 2, type := 0, pos := "law.go:30", after := #[], guard := Option.none }) (v := .pointer (some ⟨g, 2, none⟩)) rfl (by kernel_rfl) (by kernel_rfl) (by kernel_rfl) (fun _ _ _ h => h) (Or.inl ⟨by rfl, ?_⟩) hHeld ?_
  · intro W hSw
    obtain ⟨z0, z1, z2, z3⟩ := cells4 ((hSw.block g HLT.out).trans HE.out.2.1)
    go_simp
  simp only [Act.put, List.setIfInBounds_toArray, List.set_cons_zero, List.set_cons_succ]
  refine wpAnyH_take (i := 5) (oi := { dst := Option.some 9, op := Op.load 3 (Operand.tmp 8), type := 3, pos := "law.go:30", after := #[{ on := 4, ground := Ground.data }], guard := Option.none }) (v := .int .i64 e.kind) rfl (by kernel_rfl) (by kernel_rfl) (by kernel_rfl) (fun _ _ _ h => h) (Or.inl ⟨by rfl, ?_⟩) hHeld ?_
  · intro W hSw
    obtain ⟨z0, z1, z2, z3⟩ := cells4 ((hSw.block g HLT.out).trans HE.out.2.1)
    go_simp
  simp only [Act.put, List.setIfInBounds_toArray, List.set_cons_zero, List.set_cons_succ]
  refine wpAnyH_take (i := 6) (oi := { dst := Option.some 10, op := Op.move (Operand.tmp 3), type := 22, pos := "law.go:30", after := #[], guard := Option.none }) (v := .slice none 0 0) rfl (by kernel_rfl) (by kernel_rfl) (by kernel_rfl) (fun _ _ _ h => h) (Or.inl ⟨by rfl, ?_⟩) hHeld ?_
  · intro W hSw
    obtain ⟨z0, z1, z2, z3⟩ := cells4 ((hSw.block g HLT.out).trans HE.out.2.1)
    go_simp
  simp only [Act.put, List.setIfInBounds_toArray, List.set_cons_zero, List.set_cons_succ]
  refine wpAnyH_take (i := 7) (oi := { dst := Option.some 11, op := Op.fieldAddr 71 (Operand.tmp 1) 3, type := 0, pos := "law.go:30", after := #[], guard := Option.none }) (v := .pointer (some ⟨g, 3, none⟩)) rfl (by kernel_rfl) (by kernel_rfl) (by kernel_rfl) (fun _ _ _ h => h) (Or.inl ⟨by rfl, ?_⟩) hHeld ?_
  · intro W hSw
    obtain ⟨z0, z1, z2, z3⟩ := cells4 ((hSw.block g HLT.out).trans HE.out.2.1)
    go_simp
  simp only [Act.put, List.setIfInBounds_toArray, List.set_cons_zero, List.set_cons_succ]
  refine wpAnyH_take (i := 8) (oi := { dst := Option.some 12, op := Op.load 22 (Operand.tmp 11), type := 22, pos := "law.go:30", after := #[{ on := 7, ground := Ground.data }], guard := Option.none }) (v := .slice A n c) rfl (by kernel_rfl) (by kernel_rfl) (by kernel_rfl) (fun _ _ _ h => h) (Or.inl ⟨by rfl, ?_⟩) hHeld ?_
  · intro W hSw
    obtain ⟨z0, z1, z2, z3⟩ := cells4 ((hSw.block g HLT.out).trans HE.out.2.1)
    go_simp
  simp only [Act.put, List.setIfInBounds_toArray, List.set_cons_zero, List.set_cons_succ]
  have N0 := World.ownsRow_nil W1.drew W1.heap.size 5 1
  refine wpAnyH_ready (rs := [9]) (by kernel_rfl) (by simp) ?_
  refine AllReadyH.cons (o := { dst := Option.some 13, op := Op.call { callee := Callee.builtin Builtin.append, args := #[Operand.tmp 10, Operand.tmp 12], argTypes := #[22, 22] }, type := 22, pos := "law.go:30", after := #[{ on := 6, ground := Ground.data }, { on := 8, ground := Ground.data }], guard := Option.none }) rfl (fun K hK => ?_) AllReadyH.nil
  refine step_op' rfl (wp_joinB (xs := []) N0 (.tmp 10) (.tmp 12) rfl rfl A n c rfl e.data (HN.out.1.below HE.out.1.drew) (by have := HN.out.2.2; simp; omega) (Nat.le_refl _) ?_)
  intro v1 w1 ho1 hg1
  rw [List.nil_append] at ho1
  have hb1 : Below W1.heap.size W1 w1 := Below.grown (Below.refl _ _).drew hg1 (Nat.le_refl _) (fun q hq => by cases hq)
  have hI1 : SlT w1 (fun q => W1.heap.size ≤ q ∧ q < w1.heap.size) v1 e.data := SlT.of_own ho1 _ fun q hq => ho1.lt q hq
  obtain ⟨Ax, cx, hv, -, -⟩ := (Bys.of_own ho1).form
  rw [← HN.out.2.1] at hv
  subst hv
  refine hK.out _ _ (hb1.mono (by have := HE.out.2.2.2.2; omega)) (fun hHeld2 => ?_)
  clear hK K hHeld
  have hHeld := hHeld2
  clear hHeld2
  simp only [Act.put, List.setIfInBounds_toArray, List.set_cons_zero, List.set_cons_succ]
  refine wpAnyH_take (i := 10) (oi := { dst := Option.some 14, op := Op.build 57 #[(0, Operand.tmp 5), (1, Operand.tmp 7), (2, Operand.tmp 9), (3, Operand.tmp 13)], type := 57, pos := "law.go:30", after := #[{ on := 1, ground := Ground.data }, { on := 3, ground := Ground.data }, { on := 5, ground := Ground.data }, { on := 9, ground := Ground.data }], guard := Option.none }) (v := .agg #[.int .i64 e.index, .int .i64 e.term, .int .i64 e.kind, .slice Ax n cx]) rfl (by kernel_rfl) (by kernel_rfl) (by kernel_rfl) (fun _ _ _ h => h) (Or.inl ⟨by rfl, ?_⟩) hHeld ?_
  · intro W hSw
    go_simp
  simp only [Act.put, List.setIfInBounds_toArray, List.set_cons_zero, List.set_cons_succ]
  have hS := (hb1.block g2 (obj_lt HE.out.2.2.1)).trans HE.out.2.2.1
  obtain ⟨y0, y1, y2, y3⟩ := cells4 hS
  have f0 := frozen_own hS 0
  have f1 := frozen_own hS 1
  have f2 := frozen_own hS 2
  have f3 := frozen_own hS 3
  have HS := Lib.hid (And.intro hS (And.intro hb1 hI1))
  clear hS hb1 hI1 ho1 hg1 N0
  refine wpAnyH_ready (rs := [11]) (by kernel_rfl) (by simp) ?_
  refine AllReadyH.cons (o := { dst := Option.none, op := Op.store 57 (Operand.tmp 2) (Operand.tmp 14), type := 0, pos := "law.go:30", after := #[{ on := 10, ground := Ground.data }, { on := 9, ground := Ground.chain }, { on := 0, ground := Ground.phase }, { on := 1, ground := Ground.phase }, { on := 2, ground := Ground.phase }, { on := 3, ground := Ground.phase }, { on := 4, ground := Ground.phase }, { on := 5, ground := Ground.phase }, { on := 6, ground := Ground.phase }, { on := 7, ground := Ground.phase }, { on := 8, ground := Ground.phase }, { on := 9, ground := Ground.phase }, { on := 10, ground := Ground.phase }], guard := Option.none }) rfl (fun K hK => ?_) AllReadyH.nil
  go_simp
  obtain ⟨WF, hWF⟩ : ∃ W, W = put4 w1 g2 (.int .i64 e.index) (.int .i64 e.term) (.int .i64 e.kind) (.slice Ax n cx) := ⟨_, rfl⟩
  have hbF := put4_below (b := g2) (v0 := .int .i64 e.index) (v1 := .int .i64 e.term) (v2 := .int .i64 e.kind) (v3 := .slice Ax n cx) (HS.out.2.1.mono (show g2 ≤ _ by have := HE.out.2.2.2.2; omega)) (Nat.le_refl g2)
  obtain ⟨z0, z1, z2, z3⟩ := cells4 (put4_own HS.out.1 (.int .i64 e.index) (.int .i64 e.term) (.int .i64 e.kind) (.slice Ax n cx))
  have hoth : ∀ k, k ≠ g2 → (put4 w1 g2 (.int .i64 e.index) (.int .i64 e.term) (.int .i64 e.kind) (.slice Ax n cx)).heap[k]? = w1.heap[k]? := fun k hk => by
    unfold put4; rw [Below.heap_setCell _ _ _ _ hk, Below.heap_setCell _ _ _ _ hk, Below.heap_setCell _ _ _ _ hk, Below.heap_setCell _ _ _ _ hk]
  have hsz2 : (put4 w1 g2 (.int .i64 e.index) (.int .i64 e.term) (.int .i64 e.kind) (.slice Ax n cx)).heap.size = w1.heap.size := by
    unfold put4; simp only [World.size_setCell]
  rw [← hWF] at hbF z0 z1 z2 z3 hoth hsz2
  unfold put4 at hWF
  rw [← hWF]
  refine hK.out _ _ hbF (fun hHeld2 => ?_)
  clear hK K hHeld hHeld2 hWF y0 y1 y2 y3 f0 f1 f2 f3
  have HF := Lib.hid (And.intro hbF (And.intro hoth hsz2))
  clear hbF hoth hsz2
  refine wpAnyH_done (by kernel_rfl) ?_ _
  go_wp2_with fail
  have hbw : Below w.heap.size w WF := HE.out.1.trans (HF.out.1.mono HE.out.2.2.2.1)
  refine bodyPost_ret (v := .agg #[.int .i64 e.index, .int .i64 e.term, .int .i64 e.kind, .slice Ax n cx]) ?_ rfl ⟨Ax, cx, rfl, ?_, hbw⟩
  · simp only [results, hres]
    go_simp
  · refine (SlT.kept HS.out.2.2 fun k hk _ => HF.out.2.1 k ?_).mono fun k hk => ⟨Nat.le_trans HE.out.1.size hk.1, by rw [HF.out.2.2]; exact hk.2⟩
    have := hk.1; have := HE.out.2.2.2.2; omega

set_option maxHeartbeats 8000000 in
theorem giveEntries_any (A : Option Addr) (n c : Nat) (l : List En) (w : World) (h : Ents w (.slice A n c) l) (hs : SmallE 1000000 100000000 l) :
    Calls Tryz.prog 40 #[.slice A n c] w fun y w' => ∃ A1 c1, y = .returned (.slice A1 n c1) ∧ EntsT w' (fun k => w.heap.size ≤ k ∧ k < w'.heap.size) (.slice A1 n c1) l ∧ Below w.heap.size w w' := by
  obtain ⟨hn, hnc, hcm⟩ := h.len_
  have in1 : (n : Int) ≤ 9223372036854775807 := by omega
  have HH := Lib.hid (And.intro h (And.intro hn hs))
  clear h hnc hcm hs hn
  go_enter Tryz.func40, Tryz.ntmps40
  go_wp2_with fail
  go_loopw [3, 4] (fun v ii wr => ∃ (j : Nat), j ≤ n ∧ ii = .int .i64 (j : Int) ∧ OwnE wr w.heap.size (fun k => w.heap.size ≤ k) 57 v (l.take j) ∧ Below w.heap.size w wr) (fun _ ii _ => n - (intOf ii).toNat)
  case atStart => exact ⟨0, Nat.zero_le _, rfl, OwnE.nil_ _ _ _ _, Below.refl _ _⟩
  case round =>
    obtain ⟨j, hj, rfl, how, hbw⟩ := hrel
    have hjl : (l.take j).length = j := by rw [List.length_take]; have := HH.out.2.1; omega
    obtain ⟨Av, cv, rfl, -, -⟩ := how.form hjl
    have HO := Lib.hid (And.intro how (And.intro hbw hjl))
    clear how hjl
    by_cases hlt : j < n
    · have ii : (j : Int) < (n : Int) := by omega
      have hkl : j < l.length := by have := HH.out.2.1; omega
      obtain ⟨bk, off, Ad, cd, rfl, hbb, hok, q0, q1, q2, q3, hdat⟩ := HH.out.1.at_ j hkl
      have hxe : l.take (j + 1) = l.take j ++ [l[j]] := List.take_succ_eq_append_getElem hkl
      have hsm := HH.out.2.2.2 _ (List.getElem_mem hkl)
      obtain ⟨e, he⟩ : ∃ e, e = l[j] := ⟨_, rfl⟩
      rw [← he] at q0 q1 q2 q3 hdat hxe hsm
      obtain ⟨m, hm⟩ : ∃ m, m = e.data.length := ⟨_, rfl⟩
      rw [← hm] at q3 hdat hsm
      have y0 := (hbw.cell (p := ⟨bk, off + j * 4, none⟩) hbb).trans q0
      have y1 := (hbw.cell (p := ⟨bk, off + j * 4 + 1, none⟩) hbb).trans q1
      have y2 := (hbw.cell (p := ⟨bk, off + j * 4 + 2, none⟩) hbb).trans q2
      have y3 := (hbw.cell (p := ⟨bk, off + j * 4 + 3, none⟩) hbb).trans q3
      have HG := Lib.hid (giveEntry_any e Ad m cd wr (hdat.below hbw) (by omega))
      have HX := Lib.hid (And.intro hxe (And.intro hm hsm))
      clear q0 q1 q2 q3 hdat hxe hsm he hm hbb hok hkl hbw
      go_wp2_with (first
        | (go_at_call 73; go_must (refine HG.out.mono ?_; rintro y w1 ⟨A1, c1, rfl, hd1, hb1⟩; have HB1 := Lib.hid (And.intro hd1 hb1); clear hd1 hb1))
        | (at_builtin; go_must (refine wpList_pushE (B := w.heap.size) (Q := fun k => w.heap.size ≤ k) (t := 57) (l := l.take j) ((HO.out.1.more HB1.out.2).more (below_alloc w1 _)) rfl _ _ 28 Tryz.underlying28 info_ent rfl rfl w1.heap.size e A1 c1 rfl ?c0 ?c1 ?c2 ?c3 ?c4)))
      case c0 => rw [← HX.out.2.1]; exact heap_alloc_new w1 _
      case c1 =>
        rw [← HX.out.2.1]
        refine (SlT.kept HB1.out.1 fun k hk _ => heap_alloc_old _ _ hk.2).mono fun k hk => ⟨Nat.le_trans HO.out.2.1.size hk.1, by rw [World.size_alloc]; have := hk.2; omega, fun e => ?_⟩
        have h1 := (HO.out.1.lt k e).2
        have h2 := hk.1
        omega
      case c2 => have h1 := HO.out.2.2; have h2 := HH.out.2.2.1; have h3 := HH.out.2.1; omega
      case c3 => have h1 := HO.out.2.1.size; have h2 := HB1.out.2.size; simp only [World.size_alloc]; omega
      case c4 =>
        intro v' w' ho' hg' _
        have hb2 : Below w.heap.size w w1 := HO.out.2.1.trans (HB1.out.2.mono HO.out.2.1.size)
        have hb3 : Below w.heap.size w w' := (hb2.alloc hb2.size _).grown hg' (by have h1 := hb2.size; simp only [World.size_alloc]; omega) fun k hk => (HO.out.1.lt k hk).1
        rw [← HX.out.1] at ho'
        have HF := Lib.hid (And.intro ho' hb3)
        clear ho' hg' hb3 hb2
        go_wp2_with fail
        go_roundw
        case rel => exact ⟨j + 1, by omega, by go_num, HF.out.1, HF.out.2⟩
        case measure => simp [intOf]; omega
    · obtain rfl : j = n := by omega
      have ii : ¬ (j : Int) < (j : Int) := by omega
      go_wp2_with fail
      go_ret
      refine ⟨Av, cv, rfl, ?_, HO.out.2.1⟩
      have h1 := HO.out.1.entsT (fun k => w.heap.size ≤ k ∧ k < wr.heap.size) (fun _ h1 h2 => ⟨h1, h2⟩) (fun _ h1 h2 => ⟨h1, h2⟩)
      rw [List.take_of_length_le (by have := HH.out.2.1; omega)] at h1
      exact h1

/-- How long entries are, by 64 bytes. -/
def sumE : List En → Nat
  | [] => 0
  | e :: r => e.data.length / 64 + sumE r
theorem sumE_append (a b : List En) : sumE (a ++ b) = sumE a + sumE b := by
  induction a with
  | nil => simp [sumE]
  | cons e r ih => simp only [List.cons_append, sumE, ih]; omega
theorem sumE_le {d : Nat} : ∀ {l : List En}, (∀ e ∈ l, e.data.length ≤ d * 64) → sumE l ≤ l.length * d
  | [], _ => by simp [sumE]
  | e :: r, h => by
    have h1 := sumE_le (l := r) fun x hx => h x (List.mem_cons_of_mem _ hx)
    have h2 := h e (List.mem_cons_self ..)
    simp only [sumE, List.length_cons, Nat.add_mul, Nat.one_mul]
    have : e.data.length / 64 ≤ d := by omega
    omega
theorem sumE_mem : ∀ {l : List En} {e : En}, e ∈ l → e.data.length / 64 ≤ sumE l
  | x :: r, e, h => by
    rcases List.mem_cons.1 h with rfl | h
    · simp only [sumE]; omega
    · have := sumE_mem h; simp only [sumE]; omega
def longE (l : List En) : Bool := decide (200 < l.length ∨ 400 < sumE (l.take 300))
theorem longE_small {l : List En} (h : longE l = false) : SmallE 200 25663 l := by
  have h1 := of_decide_eq_false h
  refine ⟨by omega, fun e he => ?_⟩
  rw [List.take_of_length_le (by omega)] at h1
  have := sumE_mem he
  omega

set_option maxHeartbeats 8000000 in
theorem long_any (A : Option Addr) (n c : Nat) (l : List En) (w : World) (h : Ents w (.slice A n c) l) (hs : ∀ e ∈ l, e.data.length ≤ 140737488355328) (b : Bool) (hb : b = longE l) :
    Calls Tryz.prog 23 #[.slice A n c] w fun y w' => y = .returned (.bool b) ∧ w = w' := by
  obtain ⟨hn, hnc, hcm⟩ := h.len_
  have in1 : (n : Int) ≤ 9223372036854775807 := by omega
  have HH := Lib.hid (And.intro h (And.intro hn (And.intro hs hb)))
  clear h hnc hcm hs hn hb
  go_enter Tryz.func23, Tryz.ntmps23
  go_wp2_with fail
  go_loop [3, 4] (fun nn ii => ∃ (j s : Nat), j ≤ n ∧ j ≤ 300 ∧ ii = .int .i64 (j : Int) ∧ nn = .int .i64 (s : Int) ∧ Hid (s = sumE (l.take j))) (fun _ ii => 300 - (intOf ii).toNat)
  case atStart => exact ⟨0, 0, Nat.zero_le _, by omega, rfl, rfl, Lib.hid rfl⟩
  case round =>
    obtain ⟨j, s, hj, hj3, rfl, rfl, HS⟩ := hrel
    have hbd : s ≤ 300 * 2199023255552 := by
      rw [HS.out]
      refine Nat.le_trans (sumE_le (d := 2199023255552) fun e he => ?_) ?_
      · have := HH.out.2.2.1 e (List.mem_of_mem_take he); omega
      · rw [List.length_take]; omega
    have in2 : (s : Int) ≤ 300 * 2199023255552 := by omega
    clear hbd
    by_cases hlt : j < n ∧ j < 300
    · obtain ⟨h1, h2⟩ := hlt
      have i1 : (j : Int) < (n : Int) := by omega
      have i2 : (j : Int) < 300 := by omega
      have hkl : j < l.length := by have := HH.out.2.1; omega
      obtain ⟨bk, off, Ad, cd, rfl, hbb, hok, q0, q1, q2, q3, hdat⟩ := HH.out.1.at_ j hkl
      have hxe : sumE (l.take (j + 1)) = s + l[j].data.length / 64 := by rw [List.take_succ_eq_append_getElem hkl, sumE_append, HS.out]; simp [sumE]
      have hsm := HH.out.2.2.1 _ (List.getElem_mem hkl)
      obtain ⟨m, hm⟩ : ∃ m, m = l[j].data.length := ⟨_, rfl⟩
      rw [← hm] at q3 hxe hsm
      have HX := Lib.hid hxe
      have in3 : (m : Int) ≤ 140737488355328 := by omega
      clear hxe hsm hm hkl hdat q0 q1 q2 hok hbb
      go_wp2_with fail
      go_round
      case rel => exact ⟨j + 1, s + m / 64, by omega, by omega, by go_num, by go_num, Lib.hid HX.out.symm⟩
      case measure => simp [intOf]; omega
    · have hend : (¬ (j : Int) < (n : Int)) ∨ ((j : Int) < (n : Int) ∧ ¬ (j : Int) < 300) := by omega
      have htk : l.take 300 = l.take j := by
        by_cases h1 : j < n
        · obtain rfl : j = 300 := by omega
          rfl
        · rw [List.take_of_length_le (by have := HH.out.2.1; omega), List.take_of_length_le (by have := HH.out.2.1; omega)]
      have HB := Lib.hid (show b = decide (200 < n ∨ 400 < s) by rw [HH.out.2.2.2]; unfold longE; rw [htk, ← HS.out, ← HH.out.2.1])
      clear hlt htk
      rcases hend with h1 | ⟨h1, h2⟩
      all_goals
        by_cases c1 : 200 < n
        · have c1' : 200 < (n : Int) := by omega
          go_wp2_with fail
          go_ret
          exact ⟨ret_bool (by rw [HB.out, decide_eq_true (by omega)]), rfl⟩
        · have c1' : ¬ 200 < (n : Int) := by omega
          by_cases c2 : 400 < s
          · have c2' : 400 < (s : Int) := by omega
            go_wp2_with fail
            go_ret
            exact ⟨ret_bool (by rw [HB.out, decide_eq_true (by omega)]), rfl⟩
          · have c2' : ¬ 400 < (s : Int) := by omega
            go_wp2_with fail
            go_ret
            exact ⟨ret_bool (by rw [HB.out, decide_eq_false (by omega)]), rfl⟩


end Go.Proofs.YtfblgkcipnkhaaaGreatDoor.pk

/-
  The document's own bytes of numbers, of truths, of bytes, of an entry, of a message.
-/
namespace Go.Proofs.YtfblgkcipnkhaaaGreatDoor.pk
open Go Go.RowKit
set_option maxRecDepth 100000

theorem decDigits_step (m : Nat) : Lib.decDigits m = (if m / 10 = 0 then [] else Lib.decDigits (m / 10)) ++ [UInt8.ofNat (48 + m % 10)] := by
  by_cases h : m < 10
  · rw [Lib.decDigits, dif_pos h, if_pos (by omega), show m % 10 = m from by omega]; rfl
  · rw [Lib.decDigits, dif_neg h, if_neg (by omega)]

theorem dig_piece : ∀ r, r < 10 → (⟨#[48, 49, 50, 51, 52, 53, 54, 55, 56, 57]⟩ : ByteArray).extract r (r + 1) = ⟨#[UInt8.ofNat (48 + r)]⟩ := by
  intro r hr
  have : r = 0 ∨ r = 1 ∨ r = 2 ∨ r = 3 ∨ r = 4 ∨ r = 5 ∨ r = 6 ∨ r = 7 ∨ r = 8 ∨ r = 9 := by omega
  rcases this with rfl | rfl | rfl | rfl | rfl | rfl | rfl | rfl | rfl | rfl <;> rfl
theorem dig_cons (r : Nat) (hr : r < 10) (l : List UInt8) : (⟨#[48, 49, 50, 51, 52, 53, 54, 55, 56, 57]⟩ : ByteArray).extract r (r + 1) ++ (⟨l.toArray⟩ : ByteArray) = ⟨(UInt8.ofNat (48 + r) :: l).toArray⟩ := by
  rw [dig_piece r hr]
  apply ByteArray.ext
  simp
theorem decDigits_le (u : Nat) (hu : u < 18446744073709551616) : (Lib.decDigits u).length ≤ 20 := by rw [Lib.decDigits_length]; exact Lib.nDigits_le20 u hu
theorem Digits_any (u : Nat) (hu : u < 18446744073709551616) (w : World) :
    Calls Tryz.prog 77 #[.int .u64 (u : Int)] w fun x w' => x = .returned (.string ⟨(Lib.decDigits u).toArray⟩) ∧ w' = w := by
  go_enter Tryz.func77, Tryz.ntmps77
  go_wp2
  go_loop [0, 3] (fun nn ss => ∃ (m : Nat) (l : List UInt8), m ≤ u ∧ nn = .int .u64 (m : Int) ∧ ss = .string ⟨l.toArray⟩ ∧ Hid ((l = [] ∧ m = u) ∨ (l ≠ [] ∧ Lib.decDigits u = (if m = 0 then [] else Lib.decDigits m) ++ l)))
    (fun nn ss => (intOf nn).toNat + (match ss with | .string s => if s.size = 0 then 1 else 0 | _ => 0))
  case atStart => exact ⟨u, [], Nat.le_refl _, rfl, rfl, Lib.hid (Or.inl ⟨rfl, rfl⟩)⟩
  case round =>
    obtain ⟨m, l, hm, rfl, rfl, HR⟩ := hrel
    have hl20 : l.length ≤ 20 := by
      rcases HR.out with ⟨rfl, _⟩ | ⟨_, h⟩
      · simp
      · have h1 := decDigits_le u hu
        rw [h, List.length_append] at h1
        omega
    by_cases hm0 : m = 0
    · subst hm0
      by_cases hl : l = []
      · subst hl
        have hu0 : u = 0 := by
          rcases HR.out with ⟨_, h⟩ | ⟨h, _⟩
          · exact h.symm
          · exact absurd rfl h
        have hpc := dig_cons 0 (by omega) []
        have HPC := Lib.hid hpc
        clear hpc
        go_wp2
        go_round
        case rel =>
          refine ⟨0, [48], by omega, rfl, ?_, Lib.hid (Or.inr ⟨by simp, ?_⟩)⟩
          · exact congrArg Value.string HPC.out
          · rw [hu0, Lib.decDigits_one (by omega)]; simp
        case measure => decide
      · have hz : (l == []) = false := by simpa using hl
        have hres : Lib.decDigits u = l := by
          rcases HR.out with ⟨h, _⟩ | ⟨_, h⟩
          · exact absurd h hl
          · simpa using h
        rw [hres]
        clear HR
        go_wp2
        go_ret
        exact ⟨rfl, rfl⟩
    · have hpc := dig_cons (m % 10) (by omega) l
      have HPC := Lib.hid hpc
      have hmp : (0 : Int) < (m : Int) := by omega
      have hb10 : (m : Int) % 10 + 1 ≤ 10 := by omega
      have hmn : min (m % 10 + 1) 10 - m % 10 + l.length ≤ 9223372036854775807 := by omega
      clear hpc
      go_wp2
      go_round
      case rel =>
        refine ⟨m / 10, UInt8.ofNat (48 + m % 10) :: l, by omega, ?_, ?_, Lib.hid (Or.inr ⟨by simp, ?_⟩)⟩
        · rfl
        · exact congrArg Value.string HPC.out
        · have h1 : Lib.decDigits u = Lib.decDigits m ++ l := by
            rcases HR.out with ⟨h2, h3⟩ | ⟨_, h3⟩
            · rw [h2, h3, List.append_nil]
            · rw [h3, if_neg hm0]
          rw [h1, decDigits_step m]
          simp
      case measure =>
        rw [HPC.out]
        have e1 : (⟨(UInt8.ofNat (48 + m % 10) :: l).toArray⟩ : ByteArray).size ≠ 0 := by simp [ByteArray.size]
        show ((m : Int) / 10).toNat + (if (⟨(UInt8.ofNat (48 + m % 10) :: l).toArray⟩ : ByteArray).size = 0 then 1 else 0) < (m : Int).toNat + _
        rw [if_neg e1]
        omega

theorem strCells_mk (l : List UInt8) : Lib.strCells ⟨l.toArray⟩ = Lib.byteCells l := by
  simp [Lib.strCells, Lib.byteCells]

/-- 'add(b, s)': a row of the call's own: the bytes, and the text's behind them. -/
theorem add_any (A : Option Addr) (n c : Nat) (bs l : List UInt8) (w : World) (h : Bys w (.slice A n c) bs) (hl : bs.length + l.length ≤ 140737488355328) (m : Nat) (hm : m = (bs ++ l).length) :
    Calls Tryz.prog 76 #[.slice A n c, .string ⟨l.toArray⟩] w fun x w' => ∃ A1 c1, x = .returned (.slice A1 m c1) ∧ Bys w' (.slice A1 m c1) (bs ++ l) ∧ Below w.heap.size w w' := by
  obtain ⟨i0, hi, hz0, hz1, hz2⟩ := info_parts info_u8
  have H := Lib.hid h.sl_
  have hsz : (⟨l.toArray⟩ : ByteArray).size = l.length := by simp [ByteArray.size]
  have hsc := Lib.hid (strCells_mk l)
  generalize (⟨l.toArray⟩ : ByteArray) = S at hsz hsc
  have HSZ := Lib.hid (And.intro hsz hm)
  clear h hsz hm
  go_enter Tryz.func76, Tryz.ntmps76
  go_wp2_with (at_builtin; first
    | (refine Lib.wpList_append_own_string _ rfl _ _ 22 9 rfl w.heap.size 5 i0 Tryz.underlying22 Tryz.underlying9 hi hz0 hz1 hz2 _ _ _ rfl HO.out S rfl (by simp only [maxLen]; have := HSZ.out.1; omega) (by have := HSZ.out.1; omega) HB1.out.size ?_; intro v2 w2 hown2 hgrow2 _; have HO2 := Lib.hid hown2; have HB2 := Lib.hid (HB1.out.grown hgrow2 HB1.out.size (fun k hk => (HO.out.lt k hk).1)); clear hown2 hgrow2)
    | (refine wpList_append_sl rfl _ _ 22 rfl w.heap.size 5 i0 _ Tryz.underlying22 hi hz0 hz1 hz2 rfl (.slice none 0 0) 0 [] rfl (World.ownsRow_nil _ _ _ _) w.heap.size A n c bs rfl H.out (by omega) (Nat.le_refl _) ?_; intro v1 w1 hown hgrow; have HO := Lib.hid hown; have HB1 := Lib.hid ((Below.refl w.heap.size w).grown hgrow (Nat.le_refl _) (by simp [Value.ownBlock])); clear hown hgrow))
  go_ret
  have hO2 := HO2.out
  rw [hsc.out] at hO2
  have e1 : (bs ++ l).length = 0 + bs.length + S.size := by rw [List.length_append, HSZ.out.1]; omega
  have e2 : Lib.byteCells (bs ++ l) = [] ++ Lib.byteCells bs ++ Lib.byteCells l := by simp [Lib.byteCells]
  have hO3 : w2.ownsRow w.heap.size 5 1 v2 (bs ++ l).length (Lib.byteCells (bs ++ l)) := by rw [e1, e2]; exact hO2
  obtain ⟨A1, c1, hv, -, -⟩ := (Bys.of_own hO3).form
  have hb := Bys.of_own hO3
  rw [hv, ← HSZ.out.2] at hb
  rw [← HSZ.out.2] at hv
  subst hv
  exact ⟨A1, c1, rfl, hb, HB2.out⟩

theorem catStr (a b : List UInt8) : (⟨a.toArray⟩ : ByteArray) ++ (⟨b.toArray⟩ : ByteArray) = ⟨(a ++ b).toArray⟩ := by
  apply ByteArray.ext
  simp

/-- 'Uint(b, n)'. -/
theorem RefUint_any (A : Option Addr) (n c u : Nat) (hu : u < 18446744073709551616) (bs : List UInt8) (w : World) (h : Bys w (.slice A n c) bs) (hl : bs.length + 22 ≤ 140737488355328) (m : Nat) (hm : m = (bs ++ lUint u).length) :
    Calls Tryz.prog 48 #[.slice A n c, .int .u64 (u : Int)] w fun x w' => ∃ A1 c1, x = .returned (.slice A1 m c1) ∧ Bys w' (.slice A1 m c1) (bs ++ lUint u) ∧ Below w.heap.size w w' := by
  have H := Lib.hid h
  have hd := decDigits_le u hu
  have e1 : (⟨#[110]⟩ : ByteArray) ++ (⟨(Lib.decDigits u).toArray⟩ : ByteArray) ++ (⟨#[59]⟩ : ByteArray) = ⟨(lUint u).toArray⟩ := by
    rw [show (⟨#[110]⟩ : ByteArray) = ⟨[110].toArray⟩ from rfl, show (⟨#[59]⟩ : ByteArray) = ⟨[59].toArray⟩ from rfl, catStr, catStr]; rfl
  have hlen : (lUint u).length ≤ 22 := by unfold lUint; simp; omega
  have hsz : (⟨(Lib.decDigits u).toArray⟩ : ByteArray).size ≤ 20 := by simpa [ByteArray.size] using hd
  have HE := Lib.hid e1
  have HD := Lib.hid (Digits_any u hu w)
  generalize (⟨(Lib.decDigits u).toArray⟩ : ByteArray) = D at hsz HE HD
  have HM := Lib.hid hm
  clear h hd e1 hm
  go_enter Tryz.func48, Tryz.ntmps48
  go_wp2_with (first
    | (go_at_call 77; refine HD.out.mono ?_; rintro x w' ⟨rfl, rfl⟩))
  rw [HE.out]
  refine (add_any A n c bs (lUint u) _ H.out (by omega) m HM.out).mono ?_
  rintro x w2 ⟨A1, c1, rfl, hO, hB⟩
  have HO := Lib.hid hO
  have HB := Lib.hid hB
  clear hO hB
  go_wp2
  go_ret
  exact ⟨A1, c1, rfl, HO.out, HB.out⟩

set_option maxHeartbeats 4000000 in
/-- 'Bytes(b, x)'. -/
theorem RefBytes_any (A : Option Addr) (n c : Nat) (bs : List UInt8) (A' : Option Addr) (n' c' : Nat) (xs : List UInt8) (w : World) (h : Bys w (.slice A n c) bs) (h' : Bys w (.slice A' n' c') xs) (hl : bs.length ≤ 1000000000) (hl' : n' ≤ 1000000000) (m : Nat) (hm : m = (bs ++ lBytes xs).length) :
    Calls Tryz.prog 49 #[.slice A n c, .slice A' n' c'] w fun x w' => ∃ A1 c1, x = .returned (.slice A1 m c1) ∧ Bys w' (.slice A1 m c1) (bs ++ lBytes xs) ∧ Below w.heap.size w w' := by
  have hn := h'.len_
  have hd := decDigits_le n' (by omega)
  have e1 : (⟨#[98]⟩ : ByteArray) ++ (⟨(Lib.decDigits n').toArray⟩ : ByteArray) ++ (⟨#[58]⟩ : ByteArray) ++ (⟨xs.toArray⟩ : ByteArray) = ⟨(lBytes xs).toArray⟩ := by
    rw [show (⟨#[98]⟩ : ByteArray) = ⟨[98].toArray⟩ from rfl, show (⟨#[58]⟩ : ByteArray) = ⟨[58].toArray⟩ from rfl, catStr, catStr, catStr]
    unfold lBytes lHead; rw [← hn]; simp
  have hlen : (lBytes xs).length ≤ 22 + n' := by unfold lBytes lHead; rw [← hn]; simp; omega
  have hsz : (⟨(Lib.decDigits n').toArray⟩ : ByteArray).size ≤ 20 := by simpa [ByteArray.size] using hd
  have hsx : (⟨xs.toArray⟩ : ByteArray).size ≤ 1000000000 := by simp [ByteArray.size]; omega
  have HE := Lib.hid e1
  have HD := Lib.hid fun W => Digits_any n' (by omega) W
  have HV := Lib.hid fun W (hW : Below w.heap.size w W) => conv_bytes (h'.below hW).sl_
  generalize (⟨(Lib.decDigits n').toArray⟩ : ByteArray) = D at hsz HE HD
  generalize (⟨xs.toArray⟩ : ByteArray) = X at hsx HE HV
  have HM := Lib.hid (And.intro hm (And.intro h hlen))
  have hn2 : (n' : Int) ≤ 1000000000 := by omega
  have hwu : IntKind.u64.wrap (n' : Int) = (n' : Int) := by rw [IntKind.wrap_u64]; omega
  clear h h' hd e1 hm hlen hn
  go_enter Tryz.func49, Tryz.ntmps49
  go_upto_region 1 with fail
  have hd0 : Below w.heap.size w w.drew := (Below.refl _ _).drew
  have t1 : 1 + D.size ≤ 9223372036854775807 := by omega
  have t2 : 1 + D.size ≤ 9223372036854775806 := by omega
  have t3 : 1 + D.size + 1 + X.size ≤ 9223372036854775807 := by omega
  refine wp_region_held_drew (S := fun W => Below w.heap.size w W) (by kernel_rfl) hd0 (fun hHeld => ?_)
  refine wpAnyH_take (i := 0) (oi := { dst := Option.some 5, op := Op.move (Operand.tmp 0), type := 22, pos := "ref.go:43", after := #[], guard := Option.none }) (v := .slice A n c) rfl (by kernel_rfl) (by kernel_rfl) (by kernel_rfl) (fun _ _ _ h => h) (Or.inl ⟨by rfl, ?_⟩) hHeld ?_
  · intro W hSw
    go_simp
  simp only [Act.put, List.setIfInBounds_toArray, List.set_cons_zero, List.set_cons_succ]
  refine wpAnyH_take (i := 1) (oi := { dst := Option.some 6, op := Op.move (Operand.tmp 1), type := 22, pos := "ref.go:43", after := #[], guard := Option.none }) (v := .slice A' n' c') rfl (by kernel_rfl) (by kernel_rfl) (by kernel_rfl) (fun _ _ _ h => h) (Or.inl ⟨by rfl, ?_⟩) hHeld ?_
  · intro W hSw
    go_simp
  simp only [Act.put, List.setIfInBounds_toArray, List.set_cons_zero, List.set_cons_succ]
  refine wpAnyH_take (i := 2) (oi := { dst := Option.some 7, op := Op.call { callee := Callee.builtin Builtin.len, args := #[Operand.tmp 6], argTypes := #[22] }, type := 3, pos := "ref.go:43", after := #[{ on := 1, ground := Ground.data }], guard := Option.none }) (v := .int .i64 (n' : Int)) rfl (by kernel_rfl) (by kernel_rfl) (by kernel_rfl) (fun _ _ _ h => h) (Or.inl ⟨by rfl, ?_⟩) hHeld ?_
  · intro W hSw
    go_simp
  simp only [Act.put, List.setIfInBounds_toArray, List.set_cons_zero, List.set_cons_succ]
  refine wpAnyH_take (i := 3) (oi := { dst := Option.some 8, op := Op.convert 3 51 (Operand.tmp 7), type := 51, pos := "ref.go:43", after := #[{ on := 2, ground := Ground.data }], guard := Option.none }) (v := .int .u64 (n' : Int)) rfl (by kernel_rfl) (by kernel_rfl) (by kernel_rfl) (fun _ _ _ h => h) (Or.inl ⟨by rfl, ?_⟩) hHeld ?_
  · intro W hSw
    go_simp
  simp only [Act.put, List.setIfInBounds_toArray, List.set_cons_zero, List.set_cons_succ]
  refine wpAnyH_take (i := 7) (oi := { dst := Option.some 12, op := Op.move (Operand.tmp 1), type := 22, pos := "ref.go:43", after := #[], guard := Option.none }) (v := .slice A' n' c') rfl (by kernel_rfl) (by kernel_rfl) (by kernel_rfl) (fun _ _ _ h => h) (Or.inl ⟨by rfl, ?_⟩) hHeld ?_
  · intro W hSw
    go_simp
  simp only [Act.put, List.setIfInBounds_toArray, List.set_cons_zero, List.set_cons_succ]
  refine wpAnyH_take (i := 8) (oi := { dst := Option.some 13, op := Op.convert 22 9 (Operand.tmp 12), type := 9, pos := "ref.go:43", after := #[{ on := 7, ground := Ground.data }], guard := Option.none }) (v := .string X) rfl (by kernel_rfl) (by kernel_rfl) (by kernel_rfl) (fun _ _ _ h => h) (Or.inl ⟨by rfl, ?_⟩) hHeld ?_
  · intro W hSw
    have hv := HV.out _ hSw
    go_simp
  simp only [Act.put, List.setIfInBounds_toArray, List.set_cons_zero, List.set_cons_succ]
  refine wpAnyH_ready (rs := [4]) (by kernel_rfl) (by simp) ?_
  refine AllReadyH.cons (o := { dst := Option.some 9, op := Op.call { callee := Callee.value (Operand.func 77), args := #[Operand.tmp 8], argTypes := #[51] }, type := 9, pos := "ref.go:43", after := #[{ on := 3, ground := Ground.data }], guard := Option.none }) rfl (fun K hK => ?_) AllReadyH.nil
  go_simp
  refine (HD.out _).mono ?_
  rintro y w1 ⟨rfl, rfl⟩
  refine hK.out _ _ hd0 (fun hHeld2 => ?_)
  clear hK K hHeld
  have hHeld := hHeld2
  clear hHeld2
  refine wpAnyH_take (i := 5) (oi := { dst := Option.some 10, op := Op.binOp BinOp.add 9 (Operand.const (Value.string { data := #[98] })) (Operand.tmp 9) 9, type := 9, pos := "ref.go:43", after := #[{ on := 4, ground := Ground.data }], guard := Option.none }) (v := .string ((⟨#[98]⟩ : ByteArray) ++ D)) rfl (by kernel_rfl) (by kernel_rfl) (by kernel_rfl) (fun _ _ _ h => h) (Or.inl ⟨by rfl, ?_⟩) hHeld ?_
  · intro W hSw
    go_simp
  simp only [Act.put, List.setIfInBounds_toArray, List.set_cons_zero, List.set_cons_succ]
  refine wpAnyH_take (i := 6) (oi := { dst := Option.some 11, op := Op.binOp BinOp.add 9 (Operand.tmp 10) (Operand.const (Value.string { data := #[58] })) 9, type := 9, pos := "ref.go:43", after := #[{ on := 5, ground := Ground.data }], guard := Option.none }) (v := .string ((⟨#[98]⟩ : ByteArray) ++ D ++ (⟨#[58]⟩ : ByteArray))) rfl (by kernel_rfl) (by kernel_rfl) (by kernel_rfl) (fun _ _ _ h => h) (Or.inl ⟨by rfl, ?_⟩) hHeld ?_
  · intro W hSw
    go_simp
  simp only [Act.put, List.setIfInBounds_toArray, List.set_cons_zero, List.set_cons_succ]
  refine wpAnyH_take (i := 9) (oi := { dst := Option.some 14, op := Op.binOp BinOp.add 9 (Operand.tmp 11) (Operand.tmp 13) 9, type := 9, pos := "ref.go:43", after := #[{ on := 6, ground := Ground.data }, { on := 8, ground := Ground.data }], guard := Option.none }) (v := .string ((⟨#[98]⟩ : ByteArray) ++ D ++ (⟨#[58]⟩ : ByteArray) ++ X)) rfl (by kernel_rfl) (by kernel_rfl) (by kernel_rfl) (fun _ _ _ h => h) (Or.inl ⟨by rfl, ?_⟩) hHeld ?_
  · intro W hSw
    go_simp
  simp only [Act.put, List.setIfInBounds_toArray, List.set_cons_zero, List.set_cons_succ]
  have HAD := Lib.hid (add_any A n c bs (lBytes xs) w.drew (HM.out.2.1.below hd0) (by have := HM.out.2.2; omega) m HM.out.1)
  rw [HE.out]
  refine wpAnyH_ready (rs := [10]) (by kernel_rfl) (by simp) ?_
  refine AllReadyH.cons (o := { dst := Option.some 15, op := Op.call { callee := Callee.value (Operand.func 76), args := #[Operand.tmp 5, Operand.tmp 14], argTypes := #[22, 9] }, type := 22, pos := "ref.go:43", after := #[{ on := 0, ground := Ground.data }, { on := 9, ground := Ground.data }, { on := 4, ground := Ground.chain }], guard := Option.none }) rfl (fun K hK => ?_) AllReadyH.nil
  go_simp
  refine HAD.out.mono ?_
  rintro y w1 ⟨A1, c1, rfl, hi1, hb1⟩
  have hb2 : Below w.heap.size w w1 := hd0.trans hb1
  refine hK.out _ _ hb2 (fun hHeld2 => ?_)
  clear hK K hHeld
  have hHeld := hHeld2
  clear hHeld2
  have HF := Lib.hid (And.intro hi1 hb2)
  clear hi1 hb1 hb2 hd0
  refine wpAnyH_take (i := 11) (oi := { dst := Option.some 4, op := Op.assign (Operand.tmp 15), type := 22, pos := "ref.go:43", after := #[{ on := 10, ground := Ground.data }, { on := 10, ground := Ground.chain }, { on := 0, ground := Ground.phase }, { on := 1, ground := Ground.phase }, { on := 2, ground := Ground.phase }, { on := 3, ground := Ground.phase }, { on := 4, ground := Ground.phase }, { on := 5, ground := Ground.phase }, { on := 6, ground := Ground.phase }, { on := 7, ground := Ground.phase }, { on := 8, ground := Ground.phase }, { on := 9, ground := Ground.phase }, { on := 10, ground := Ground.phase }], guard := Option.none }) (v := .slice A1 m c1) rfl (by kernel_rfl) (by kernel_rfl) (by kernel_rfl) (fun _ _ _ h => h) (Or.inl ⟨by rfl, ?_⟩) hHeld ?_
  · intro W hSw
    go_simp
  simp only [Act.put, List.setIfInBounds_toArray, List.set_cons_zero, List.set_cons_succ]
  clear hHeld
  refine wpAnyH_done (by kernel_rfl) ?_ _
  go_wp2_with fail
  go_ret
  exact ⟨A1, c1, rfl, HF.out.1, HF.out.2⟩

theorem wrap_u64 (x : Int) : IntKind.u64.wrap x = ((u64 x : Nat) : Int) := by rw [IntKind.wrap_u64]; unfold u64; omega

set_option maxHeartbeats 4000000 in
/-- 'Encode(e)'. -/
theorem RefEncode_any (e : En) (A : Option Addr) (n c : Nat) (w : World) (h : Bys w (.slice A n c) e.data) (hs : n ≤ 1000000000) (m : Nat) (hm : m = (encE e).length) :
    Calls Tryz.prog 51 #[.agg #[.int .i64 e.index, .int .i64 e.term, .int .i64 e.kind, .slice A n c]] w fun x w' => ∃ A1 c1, x = .returned (.slice A1 m c1) ∧ Bys w' (.slice A1 m c1) (encE e) ∧ Below w.heap.size w w' := by
  obtain ⟨W1, g, hW1, hg, hb1, hq, hsz⟩ := one_box w (.cells #[.int .i64 e.index, .int .i64 e.term, .int .i64 e.kind, .slice A n c] 71)
  have HW := Lib.hid (And.intro hW1 hg)
  have HE := Lib.hid (And.intro hb1 hq)
  obtain ⟨u0, hu0⟩ : ∃ u, u = u64 e.index := ⟨_, rfl⟩
  obtain ⟨u1, hu1⟩ : ∃ u, u = u64 e.term := ⟨_, rfl⟩
  obtain ⟨u2, hu2⟩ : ∃ u, u = u64 e.kind := ⟨_, rfl⟩
  have k0 := wrap_u64 e.index
  have k1 := wrap_u64 e.term
  have k2 := wrap_u64 e.kind
  rw [← hu0] at k0
  rw [← hu1] at k1
  rw [← hu2] at k2
  have hl0 : u0 < 18446744073709551616 := by rw [hu0]; exact u64_lt _
  have hl1 : u1 < 18446744073709551616 := by rw [hu1]; exact u64_lt _
  have hl2 : u2 < 18446744073709551616 := by rw [hu2]; exact u64_lt _
  have hlen : ∀ u, u < 18446744073709551616 → (lUint u).length ≤ 22 := fun u hu => by have := decDigits_le u hu; unfold lUint; simp; omega
  obtain ⟨b1, hb1'⟩ : ∃ b, b = [] ++ lUint u0 := ⟨_, rfl⟩
  obtain ⟨b2, hb2'⟩ : ∃ b, b = b1 ++ lUint u1 := ⟨_, rfl⟩
  obtain ⟨b3, hb3'⟩ : ∃ b, b = b2 ++ lUint u2 := ⟨_, rfl⟩
  have hfin : encE e = b3 ++ lBytes e.data := by unfold encE; rw [hb3', hb2', hb1', ← hu0, ← hu1, ← hu2, List.nil_append]
  have hz1 : b1.length ≤ 22 := by rw [hb1', List.nil_append]; exact hlen _ hl0
  have hz2 : b2.length ≤ 44 := by rw [hb2', List.length_append]; have := hlen _ hl1; omega
  have hz3 : b3.length ≤ 66 := by rw [hb3', List.length_append]; have := hlen _ hl2; omega
  obtain ⟨m1, hm1⟩ : ∃ m, m = b1.length := ⟨_, rfl⟩
  obtain ⟨m2, hm2⟩ : ∃ m, m = b2.length := ⟨_, rfl⟩
  obtain ⟨m3, hm3⟩ : ∃ m, m = b3.length := ⟨_, rfl⟩
  have C0 := Lib.hid fun W => RefUint_any none 0 0 u0 hl0 [] W (Bys.nil_ W) (by simp) m1 (by rw [hm1, hb1'])
  have C1 := Lib.hid fun W A c h => RefUint_any A m1 c u1 hl1 b1 W h (by omega) m2 (by rw [hm2, hb2'])
  have C2 := Lib.hid fun W A c h => RefUint_any A m2 c u2 hl2 b2 W h (by omega) m3 (by rw [hm3, hb3'])
  have C3 := Lib.hid fun W A' c' h' h => RefBytes_any A' m3 c' b3 A n c e.data W h' h (by omega) hs m (by rw [hm, hfin])
  rw [← hb1'] at C0
  simp only [← hb2'] at C1
  simp only [← hb3'] at C2
  simp only [← hfin] at C3
  have HN := Lib.hid h
  clear h hs hm hW1 hg hb1 hq hsz hu0 hu1 hu2 hl0 hl1 hl2 hlen hfin hz1 hz2 hz3 hm1 hm2 hm3 hb1' hb2' hb3'
  go_enter Tryz.func51, Tryz.ntmps51
  go_upto_region 1 with fail
  rw [← HW.out.1, ← HW.out.2]
  have hd0 : Below W1.heap.size W1 W1.drew := (Below.refl _ _).drew
  refine wp_region_held_drew (S := fun W => Below W1.heap.size W1 W) (by kernel_rfl) hd0 (fun hHeld => ?_)
  refine wpAnyH_take (i := 0) (oi := { dst := Option.some 3, op := Op.fieldAddr 71 (Operand.tmp 1) 0, type := 0, pos := "ref.go:188", after := #[], guard := Option.none }) (v := .pointer (some ⟨g, 0, none⟩)) rfl (by kernel_rfl) (by kernel_rfl) (by kernel_rfl) (fun _ _ _ h => h) (Or.inl ⟨by rfl, ?_⟩) hHeld ?_
  · intro W hSw
    obtain ⟨z0, z1, z2, z3⟩ := cells4 ((hSw.block g (obj_lt HE.out.2)).trans HE.out.2)
    go_simp
  simp only [Act.put, List.setIfInBounds_toArray, List.set_cons_zero, List.set_cons_succ]
  refine wpAnyH_take (i := 1) (oi := { dst := Option.some 4, op := Op.load 3 (Operand.tmp 3), type := 3, pos := "ref.go:188", after := #[{ on := 0, ground := Ground.data }], guard := Option.none }) (v := .int .i64 e.index) rfl (by kernel_rfl) (by kernel_rfl) (by kernel_rfl) (fun _ _ _ h => h) (Or.inl ⟨by rfl, ?_⟩) hHeld ?_
  · intro W hSw
    obtain ⟨z0, z1, z2, z3⟩ := cells4 ((hSw.block g (obj_lt HE.out.2)).trans HE.out.2)
    go_simp
  simp only [Act.put, List.setIfInBounds_toArray, List.set_cons_zero, List.set_cons_succ]
  refine wpAnyH_take (i := 2) (oi := { dst := Option.some 5, op := Op.convert 3 51 (Operand.tmp 4), type := 51, pos := "ref.go:188", after := #[{ on := 1, ground := Ground.data }], guard := Option.none }) (v := .int .u64 (u0 : Int)) rfl (by kernel_rfl) (by kernel_rfl) (by kernel_rfl) (fun _ _ _ h => h) (Or.inl ⟨by rfl, ?_⟩) hHeld ?_
  · intro W hSw
    obtain ⟨z0, z1, z2, z3⟩ := cells4 ((hSw.block g (obj_lt HE.out.2)).trans HE.out.2)
    go_simp
  simp only [Act.put, List.setIfInBounds_toArray, List.set_cons_zero, List.set_cons_succ]
  refine wpAnyH_take (i := 4) (oi := { dst := Option.some 7, op := Op.fieldAddr 71 (Operand.tmp 1) 1, type := 0, pos := "ref.go:188", after := #[], guard := Option.none }) (v := .pointer (some ⟨g, 1, none⟩)) rfl (by kernel_rfl) (by kernel_rfl) (by kernel_rfl) (fun _ _ _ h => h) (Or.inl ⟨by rfl, ?_⟩) hHeld ?_
  · intro W hSw
    obtain ⟨z0, z1, z2, z3⟩ := cells4 ((hSw.block g (obj_lt HE.out.2)).trans HE.out.2)
    go_simp
  simp only [Act.put, List.setIfInBounds_toArray, List.set_cons_zero, List.set_cons_succ]
  refine wpAnyH_take (i := 5) (oi := { dst := Option.some 8, op := Op.load 3 (Operand.tmp 7), type := 3, pos := "ref.go:188", after := #[{ on := 4, ground := Ground.data }], guard := Option.none }) (v := .int .i64 e.term) rfl (by kernel_rfl) (by kernel_rfl) (by kernel_rfl) (fun _ _ _ h => h) (Or.inl ⟨by rfl, ?_⟩) hHeld ?_
  · intro W hSw
    obtain ⟨z0, z1, z2, z3⟩ := cells4 ((hSw.block g (obj_lt HE.out.2)).trans HE.out.2)
    go_simp
  simp only [Act.put, List.setIfInBounds_toArray, List.set_cons_zero, List.set_cons_succ]
  refine wpAnyH_take (i := 6) (oi := { dst := Option.some 9, op := Op.convert 3 51 (Operand.tmp 8), type := 51, pos := "ref.go:188", after := #[{ on := 5, ground := Ground.data }], guard := Option.none }) (v := .int .u64 (u1 : Int)) rfl (by kernel_rfl) (by kernel_rfl) (by kernel_rfl) (fun _ _ _ h => h) (Or.inl ⟨by rfl, ?_⟩) hHeld ?_
  · intro W hSw
    obtain ⟨z0, z1, z2, z3⟩ := cells4 ((hSw.block g (obj_lt HE.out.2)).trans HE.out.2)
    go_simp
  simp only [Act.put, List.setIfInBounds_toArray, List.set_cons_zero, List.set_cons_succ]
  refine wpAnyH_take (i := 8) (oi := { dst := Option.some 11, op := Op.fieldAddr 71 (Operand.tmp 1) 2, type := 0, pos := "ref.go:188", after := #[], guard := Option.none }) (v := .pointer (some ⟨g, 2, none⟩)) rfl (by kernel_rfl) (by kernel_rfl) (by kernel_rfl) (fun _ _ _ h => h) (Or.inl ⟨by rfl, ?_⟩) hHeld ?_
  · intro W hSw
    obtain ⟨z0, z1, z2, z3⟩ := cells4 ((hSw.block g (obj_lt HE.out.2)).trans HE.out.2)
    go_simp
  simp only [Act.put, List.setIfInBounds_toArray, List.set_cons_zero, List.set_cons_succ]
  refine wpAnyH_take (i := 9) (oi := { dst := Option.some 12, op := Op.load 3 (Operand.tmp 11), type := 3, pos := "ref.go:188", after := #[{ on := 8, ground := Ground.data }], guard := Option.none }) (v := .int .i64 e.kind) rfl (by kernel_rfl) (by kernel_rfl) (by kernel_rfl) (fun _ _ _ h => h) (Or.inl ⟨by rfl, ?_⟩) hHeld ?_
  · intro W hSw
    obtain ⟨z0, z1, z2, z3⟩ := cells4 ((hSw.block g (obj_lt HE.out.2)).trans HE.out.2)
    go_simp
  simp only [Act.put, List.setIfInBounds_toArray, List.set_cons_zero, List.set_cons_succ]
  refine wpAnyH_take (i := 10) (oi := { dst := Option.some 13, op := Op.convert 3 51 (Operand.tmp 12), type := 51, pos := "ref.go:188", after := #[{ on := 9, ground := Ground.data }], guard := Option.none }) (v := .int .u64 (u2 : Int)) rfl (by kernel_rfl) (by kernel_rfl) (by kernel_rfl) (fun _ _ _ h => h) (Or.inl ⟨by rfl, ?_⟩) hHeld ?_
  · intro W hSw
    obtain ⟨z0, z1, z2, z3⟩ := cells4 ((hSw.block g (obj_lt HE.out.2)).trans HE.out.2)
    go_simp
  simp only [Act.put, List.setIfInBounds_toArray, List.set_cons_zero, List.set_cons_succ]
  refine wpAnyH_take (i := 12) (oi := { dst := Option.some 15, op := Op.fieldAddr 71 (Operand.tmp 1) 3, type := 0, pos := "ref.go:188", after := #[], guard := Option.none }) (v := .pointer (some ⟨g, 3, none⟩)) rfl (by kernel_rfl) (by kernel_rfl) (by kernel_rfl) (fun _ _ _ h => h) (Or.inl ⟨by rfl, ?_⟩) hHeld ?_
  · intro W hSw
    obtain ⟨z0, z1, z2, z3⟩ := cells4 ((hSw.block g (obj_lt HE.out.2)).trans HE.out.2)
    go_simp
  simp only [Act.put, List.setIfInBounds_toArray, List.set_cons_zero, List.set_cons_succ]
  refine wpAnyH_take (i := 13) (oi := { dst := Option.some 16, op := Op.load 22 (Operand.tmp 15), type := 22, pos := "ref.go:188", after := #[{ on := 12, ground := Ground.data }], guard := Option.none }) (v := .slice A n c) rfl (by kernel_rfl) (by kernel_rfl) (by kernel_rfl) (fun _ _ _ h => h) (Or.inl ⟨by rfl, ?_⟩) hHeld ?_
  · intro W hSw
    obtain ⟨z0, z1, z2, z3⟩ := cells4 ((hSw.block g (obj_lt HE.out.2)).trans HE.out.2)
    go_simp
  simp only [Act.put, List.setIfInBounds_toArray, List.set_cons_zero, List.set_cons_succ]
  clear k0 k1 k2
  refine wpAnyH_ready (rs := [3]) (by kernel_rfl) (by simp) ?_
  refine AllReadyH.cons (o := { dst := Option.some 6, op := Op.call { callee := Callee.value (Operand.func 48), args := #[Operand.const (Value.slice Option.none 0 0), Operand.tmp 5], argTypes := #[22, 51] }, type := 22, pos := "ref.go:188", after := #[{ on := 2, ground := Ground.data }], guard := Option.none }) rfl (fun K hK => ?_) AllReadyH.nil
  go_simp
  refine (C0.out _).mono ?_
  rintro y w1 ⟨A1, c1, rfl, hi1, hb1⟩
  have hb1 : Below W1.heap.size W1 w1 := hd0.trans hb1
  refine hK.out _ _ hb1 (fun hHeld2 => ?_)
  clear hK K hHeld
  have hHeld := hHeld2
  clear hHeld2
  have H1 := Lib.hid (And.intro hi1 hb1)
  clear hi1 hb1 hd0
  refine wpAnyH_ready (rs := [7]) (by kernel_rfl) (by simp) ?_
  refine AllReadyH.cons (o := { dst := Option.some 10, op := Op.call { callee := Callee.value (Operand.func 48), args := #[Operand.tmp 6, Operand.tmp 9], argTypes := #[22, 51] }, type := 22, pos := "ref.go:188", after := #[{ on := 3, ground := Ground.data }, { on := 6, ground := Ground.data }, { on := 3, ground := Ground.chain }], guard := Option.none }) rfl (fun K hK => ?_) AllReadyH.nil
  go_simp
  refine (C1.out _ _ _ H1.out.1).mono ?_
  rintro y w2 ⟨A2, c2, rfl, hi2, hb2⟩
  have hb2 : Below W1.heap.size W1 w2 := H1.out.2.trans (hb2.mono H1.out.2.size)
  refine hK.out _ _ hb2 (fun hHeld2 => ?_)
  clear hK K hHeld
  have hHeld := hHeld2
  clear hHeld2
  have H2 := Lib.hid (And.intro hi2 hb2)
  clear hi2 hb2
  refine wpAnyH_ready (rs := [11]) (by kernel_rfl) (by simp) ?_
  refine AllReadyH.cons (o := { dst := Option.some 14, op := Op.call { callee := Callee.value (Operand.func 48), args := #[Operand.tmp 10, Operand.tmp 13], argTypes := #[22, 51] }, type := 22, pos := "ref.go:188", after := #[{ on := 7, ground := Ground.data }, { on := 10, ground := Ground.data }, { on := 7, ground := Ground.chain }], guard := Option.none }) rfl (fun K hK => ?_) AllReadyH.nil
  go_simp
  refine (C2.out _ _ _ H2.out.1).mono ?_
  rintro y w3 ⟨A3, c3, rfl, hi3, hb3⟩
  have hb3 : Below W1.heap.size W1 w3 := H2.out.2.trans (hb3.mono H2.out.2.size)
  refine hK.out _ _ hb3 (fun hHeld2 => ?_)
  clear hK K hHeld
  have hHeld := hHeld2
  clear hHeld2
  have H3 := Lib.hid (And.intro hi3 hb3)
  clear hi3 hb3
  refine wpAnyH_ready (rs := [14]) (by kernel_rfl) (by simp) ?_
  refine AllReadyH.cons (o := { dst := Option.some 17, op := Op.call { callee := Callee.value (Operand.func 49), args := #[Operand.tmp 14, Operand.tmp 16], argTypes := #[22, 22] }, type := 22, pos := "ref.go:188", after := #[{ on := 11, ground := Ground.data }, { on := 13, ground := Ground.data }, { on := 11, ground := Ground.chain }], guard := Option.none }) rfl (fun K hK => ?_) AllReadyH.nil
  go_simp
  refine (C3.out _ _ _ H3.out.1 (HN.out.below (HE.out.1.trans (H3.out.2.mono HE.out.1.size)))).mono ?_
  rintro y w4 ⟨A4, c4, rfl, hi4, hb4⟩
  have hb4 : Below W1.heap.size W1 w4 := H3.out.2.trans (hb4.mono H3.out.2.size)
  refine hK.out _ _ hb4 (fun hHeld2 => ?_)
  clear hK K hHeld
  have hHeld := hHeld2
  clear hHeld2
  have H4 := Lib.hid (And.intro hi4 hb4)
  clear hi4 hb4
  refine wpAnyH_take (i := 15) (oi := { dst := Option.some 2, op := Op.assign (Operand.tmp 17), type := 22, pos := "ref.go:188", after := #[{ on := 14, ground := Ground.data }, { on := 14, ground := Ground.chain }, { on := 0, ground := Ground.phase }, { on := 1, ground := Ground.phase }, { on := 2, ground := Ground.phase }, { on := 3, ground := Ground.phase }, { on := 4, ground := Ground.phase }, { on := 5, ground := Ground.phase }, { on := 6, ground := Ground.phase }, { on := 7, ground := Ground.phase }, { on := 8, ground := Ground.phase }, { on := 9, ground := Ground.phase }, { on := 10, ground := Ground.phase }, { on := 11, ground := Ground.phase }, { on := 12, ground := Ground.phase }, { on := 13, ground := Ground.phase }, { on := 14, ground := Ground.phase }], guard := Option.none }) (v := .slice A4 m c4) rfl (by kernel_rfl) (by kernel_rfl) (by kernel_rfl) (fun _ _ _ h => h) (Or.inl ⟨by rfl, ?_⟩) hHeld ?_
  · intro W hSw
    go_simp
  simp only [Act.put, List.setIfInBounds_toArray, List.set_cons_zero, List.set_cons_succ]
  clear hHeld
  refine wpAnyH_done (by kernel_rfl) ?_ _
  go_wp2_with fail
  go_ret
  exact ⟨A4, c4, rfl, H4.out.1, HE.out.1.trans (H4.out.2.mono HE.out.1.size)⟩

set_option maxHeartbeats 1000000 in
/-- 'Bool(b, is)'. -/
theorem RefBool_any (A : Option Addr) (n c : Nat) (bs : List UInt8) (is : Bool) (w : World) (h : Bys w (.slice A n c) bs) (hl : bs.length + 1 ≤ 140737488355328) (m : Nat) (hm : m = (bs ++ lBool is).length) :
    Calls Tryz.prog 50 #[.slice A n c, .bool is] w fun x w' => ∃ A1 c1, x = .returned (.slice A1 m c1) ∧ Bys w' (.slice A1 m c1) (bs ++ lBool is) ∧ Below w.heap.size w w' := by
  have HA := Lib.hid (add_any A n c bs (lBool is) w h (by unfold lBool; simpa using hl) m hm)
  cases is with
  | true =>
    have e1 : (⟨(lBool true).toArray⟩ : ByteArray) = ⟨#[121]⟩ := rfl
    rw [e1] at HA
    clear h hl hm e1
    go_enter Tryz.func50, Tryz.ntmps50
    go_wp2_with (go_at_call 76; go_must (refine HA.out.mono ?_; rintro y w1 ⟨A1, c1, rfl, hi, hb⟩; have H1 := Lib.hid (And.intro hi hb); clear hi hb))
    go_ret
    exact ⟨A1, c1, rfl, H1.out.1, H1.out.2⟩
  | false =>
    have e1 : (⟨(lBool false).toArray⟩ : ByteArray) = ⟨#[122]⟩ := rfl
    rw [e1] at HA
    clear h hl hm e1
    go_enter Tryz.func50, Tryz.ntmps50
    go_wp2_with (go_at_call 76; go_must (refine HA.out.mono ?_; rintro y w1 ⟨A1, c1, rfl, hi, hb⟩; have H1 := Lib.hid (And.intro hi hb); clear hi hb))
    go_ret
    exact ⟨A1, c1, rfl, H1.out.1, H1.out.2⟩

end Go.Proofs.YtfblgkcipnkhaaaGreatDoor.pk

/-
  The elder readers' words, over the later ones.
-/
namespace Go.Proofs.YtfblgkcipnkhaaaGreatDoor.pk
open Go Go.RowKit
end Go.Proofs.YtfblgkcipnkhaaaGreatDoor.pk

/-
  The document's own reader of digits: what it gives is what the plain function on lists gives; it writes nothing.
-/
namespace Go.Proofs.YtfblgkcipnkhaaaGreatDoor.pk
open Go Go.RowKit
set_option maxRecDepth 100000

theorem topStr : (⟨#[49, 56, 52, 52, 54, 55, 52, 52, 48, 55, 51, 55, 48, 57, 53, 53, 49, 54, 49, 53]⟩ : ByteArray) = ⟨top20.toArray⟩ := rfl

set_option maxHeartbeats 1000000 in
theorem digits_any (A : Option Addr) (n c a : Nat) (e : UInt8) (bs : List UInt8) (w : World) {B : Nat} (h : Sl w B (.slice A n c) bs) (ha : a ≤ bs.length) (he : isDg e = false)
    (k m : Nat) (rest : List UInt8) (hr : scan e [] (bs.drop a) = (k, m, rest)) :
    Calls Tryz.prog 88 #[.slice A n c, .int .i64 (a : Int), .int .u8 (e.toNat : Int)] w fun x w' => ∃ en : Nat, x = .returned (.tuple #[.int .u64 (m : Int), .int .i64 (en : Int), .int .i64 (k : Int)]) ∧ (k = 0 → en ≤ bs.length ∧ rest = bs.drop en) ∧ w' = w := by
  have H := Lib.hid h
  have HR := Lib.hid hr
  clear hr
  obtain ⟨A0, c0, hv, h1, h2, h3⟩ := h
  injection hv with e1 e2 e3
  subst e1; subst e2; subst e3
  have hcell : ∀ j, j < bs.length → ∃ b off, A = some ⟨b, off, none⟩ ∧ w.cell? ⟨b, off + j, none⟩ = some (.int .u8 ((bs.getD j 0).toNat : Int)) := by
    intro j hj
    rcases h3 with h3 | ⟨b, off, hA, hb, hc⟩
    · subst h3; simp at hj
    · exact ⟨b, off, hA, hc j hj⟩
  have Hcell := Lib.hid hcell
  have HE := Lib.hid he
  clear h3 hcell he
  obtain ⟨D, hD⟩ : ∃ D, D = bs.drop a := ⟨_, rfl⟩
  have hDl : D.length = bs.length - a := by rw [hD, List.length_drop]
  have HD := Lib.hid hD
  rw [← hD] at HR
  clear hD
  go_enter Tryz.func88, Tryz.ntmps88
  go_wp2
  go_loop [9, 10] (fun nn ii => ∃ j : Nat, j ≤ D.length ∧ j ≤ 20 ∧ nn = .int .u64 ((fv 0 (D.take j) % 18446744073709551616 : Nat) : Int) ∧ ii = .int .i64 ((a : Int) + (j : Int)) ∧ Hid (scan e [] D = scan e (D.take j) (D.drop j)) ∧ Hid (∀ d ∈ D.take j, isDg d = true)) (fun nn ii => D.length + a - (intOf ii).toNat)
  case atStart => exact ⟨0, by omega, by omega, by rw [List.take_zero, fv_nil]; rfl, by simp, Lib.hid (by rw [List.take_zero, List.drop_zero]), Lib.hid (by rw [List.take_zero]; intro d hd; cases hd)⟩
  case round =>
    obtain ⟨j, hj, hj20, rfl, rfl, HS, HG⟩ := hrel
    have htl : (D.take j).length = j := by rw [List.length_take]; omega
    by_cases hlt : j < D.length
    · obtain ⟨b, off, rfl, hc⟩ := Hcell.out (a + j) (by omega)
      have hdrop : D.drop j = D[j] :: D.drop (j + 1) := List.drop_eq_getElem_cons hlt
      have hget : bs.getD (a + j) 0 = D[j] := by
        have h1 := getD_drop bs a j
        rw [← HD.out] at h1
        rw [← h1]; simp [List.getD, List.getElem?_eq_getElem hlt]
      rw [hget] at hc
      have htk : D.take (j + 1) = D.take j ++ [D[j]] := by rw [List.take_succ_eq_append_getElem hlt]
      have hsc := HS.out
      rw [hdrop] at hsc
      have hd256 : (D[j].toNat : Int) < 256 := by have := D[j].toNat_lt; omega
      have hmem : D[j] = D.getD j 0 := by simp [List.getD, List.getElem?_eq_getElem hlt]
      have HDr := Lib.hid hdrop
      clear hdrop hget hmem
      generalize D[j] = d at hc hsc htk hd256 HDr
      rw [scan_cons, HR.out] at hsc
      have i1 : (a : Int) + (j : Int) < (bs.length : Int) := by omega
      have i2 : (bs.length : Int) ≤ (c : Int) := by omega
      have HFV := Lib.hid (fv_lt (D.take j) HG.out)
      obtain ⟨y, hy⟩ : ∃ y, fv 0 (D.take j) % 18446744073709551616 = y := ⟨_, rfl⟩
      rw [hy]
      have hyl : y < 18446744073709551616 := by rw [← hy]; exact Nat.mod_lt _ (by decide)
      have HY := Lib.hid hy
      clear hy
      by_cases hde : d = e
      · subst hde
        rw [if_pos rfl] at hsc
        have hnum := numOf_fv (D.take j) HG.out (by omega)
        by_cases hbad : badNum (D.take j)
        · rw [hnum.1 hbad] at hsc
          simp only [Prod.mk.injEq] at hsc
          obtain ⟨rfl, rfl, rfl⟩ := hsc
          clear hnum
          by_cases hlead : 1 < (D.take j).length ∧ (D.take j).head? = some 48
          · obtain ⟨hb1, hb2⟩ := hlead
            have hj2 : (2 : Int) ≤ (j : Int) := by omega
            obtain ⟨b', off', hA, hc0⟩ := Hcell.out a (by omega)
            obtain ⟨rfl, rfl⟩ : b = b' ∧ off = off' := by injection hA with hA; injection hA with e1 e2; exact ⟨e1, e2⟩
            have hg0 : bs.getD a 0 = 48 := by
              have h1 := getD_drop bs a 0
              rw [← HD.out, Nat.add_zero] at h1
              rw [← h1]
              have h2 := getD_take D j 0 (by omega)
              rw [← h2]
              generalize D.take j = tk at hb2
              cases tk with
              | nil => simp at hb2
              | cons x l => simpa using hb2
            rw [hg0] at hc0
            replace hc0 : w.cell? ⟨b, off + a, none⟩ = some (.int .u8 48) := hc0
            have hz : ((a : Int) + (j : Int) - (a : Int) == 0) = false := by simp; omega
            clear htk HS HG hb1 hb2 hA hg0 htl
            go_wp2
            go_ret3
            first | exact ⟨0, rfl⟩ | exact ⟨⟨0, rfl⟩, rfl⟩
          · rcases hbad with hb0 | hb | ⟨hb1, hb2⟩
            · rw [hb0] at htl
              simp only [List.length_nil] at htl
              subst htl
              simp only [Nat.add_zero, Int.ofNat_zero, Int.add_zero] at hc i1 ⊢
              clear htk HS HG hb0
              go_wp2
              go_ret3
              first | exact ⟨0, rfl⟩ | exact ⟨⟨0, rfl⟩, rfl⟩
            · exact absurd hb hlead
            · obtain rfl : j = 20 := by omega
              have hx0 : 1 < 20 → ((bs.getD a 0).toNat : Int) ≠ 48 := by
                intro _ hx
                apply hlead
                refine ⟨by omega, ?_⟩
                have h1 := getD_drop bs a 0
                rw [← HD.out, Nat.add_zero] at h1
                rw [← h1] at hx
                have h2 := getD_take D 20 0 (by omega)
                rw [← h2] at hx
                generalize D.take 20 = tk at hx htl
                cases tk with
                | nil => simp only [List.length_nil] at htl; omega
                | cons x l => simp only [List.head?_cons]; rw [show x = 48 from UInt8.toNat_inj.1 (by have h3 : (x.toNat : Int) = 48 := hx; show x.toNat = 48; omega)]
              obtain ⟨b', off', hA, hc0⟩ := Hcell.out a (by omega)
              obtain ⟨rfl, rfl⟩ : b = b' ∧ off = off' := by injection hA with hA; injection hA with e1 e2; exact ⟨e1, e2⟩
              clear hA
              have hS : Sl w B (.slice (some ⟨b, off + a, none⟩) 20 (c - a)) (D.take 20) := by
                have h1 := H.out.cut (k := a) ha
                rw [if_neg (by omega), ← HD.out] at h1
                have h2 := h1.front (k := 20) (by omega)
                have e0 : (some (⟨b, off, none⟩ : Addr)).map (·.add a) = some ⟨b, off + a, none⟩ := by simp [Addr.add]
                rw [e0] at h2
                exact h2
              have hcv := conv_bytes hS
              clear hS
              have hl0 : (⟨(D.take 20).toArray⟩ : ByteArray).toList = D.take 20 := ByteArray.toList_mk _
              have htot := less_total (D.take 20) top20
              rw [hb2, ← hl0, Bool.and_eq_true, Bool.not_eq_true', Bool.not_eq_true'] at htot
              obtain ⟨hA, hB⟩ := htot
              have hx := hx0 (by omega)
              have hx1 : (((bs.getD a 0).toNat : Int) == 48) = false := by simpa using hx
              unfold top20 at hA hB
              generalize (⟨(D.take 20).toArray⟩ : ByteArray) = S at hcv hA hB
              generalize bs.getD a 0 = x0 at hc0 hx hx1
              clear htk HS HG hb1 hb2 htl hl0 hx0 hlead
              go_wp2
              go_ret3
              first | exact ⟨0, rfl⟩ | exact ⟨⟨0, rfl⟩, rfl⟩
        · rw [(hnum.2 hbad).1] at hsc
          have hfl := (hnum.2 hbad).2
          simp only [Prod.mk.injEq] at hsc
          obtain ⟨rfl, rfl, rfl⟩ := hsc
          obtain rfl : y = fv 0 (D.take j) := by have := HY.out; omega
          clear hnum HY HFV
          have hlead : ¬ (1 < (D.take j).length ∧ (D.take j).head? = some 48) := fun h => hbad (Or.inr (Or.inl h))
          have hj0 : j ≠ 0 := fun h => hbad (Or.inl (List.eq_nil_of_length_eq_zero (by omega)))
          have hdd : D.drop (j + 1) = bs.drop (a + j + 1) := by rw [HD.out, List.drop_drop, Nat.add_assoc]
          have HRest := Lib.hid hdd
          have hen : a + j + 1 ≤ bs.length := by omega
          have HM := Lib.hid hfl
          clear hdd hfl
          by_cases hj1 : j = 1
          · subst hj1
            clear htk HS HG htl hbad hlead
            go_wp2
            go_ret3
            first | (refine ⟨a + 1 + 1, ?_⟩; first | exact ⟨rfl, ⟨hen, HRest.out⟩, rfl⟩ | exact ⟨rfl, hen, HRest.out⟩ | exact ⟨rfl, fun _ => ⟨hen, HRest.out⟩, rfl⟩) | (refine ⟨⟨a + 1 + 1, ?_⟩, rfl⟩; first | exact ⟨rfl, hen, HRest.out⟩ | exact ⟨rfl, fun _ => ⟨hen, HRest.out⟩⟩)
          · have hz : ((a : Int) + (j : Int) - (a : Int) == 0) = false := by simp; omega
            have hj2 : (2 : Int) ≤ (j : Int) := by omega
            have hx0 : 1 < j → ((bs.getD a 0).toNat : Int) ≠ 48 := by
              intro hj1 hx
              apply hlead
              refine ⟨by omega, ?_⟩
              have h1 := getD_drop bs a 0
              rw [← HD.out, Nat.add_zero] at h1
              rw [← h1] at hx
              have h2 := getD_take D j 0 (by omega)
              rw [← h2] at hx
              generalize D.take j = tk at hx htl
              cases tk with
              | nil => simp only [List.length_nil] at htl; omega
              | cons x l => simp only [List.head?_cons]; rw [show x = 48 from UInt8.toNat_inj.1 (by have h3 : (x.toNat : Int) = 48 := hx; show x.toNat = 48; omega)]
            obtain ⟨b', off', hA, hc0⟩ := Hcell.out a (by omega)
            obtain ⟨rfl, rfl⟩ : b = b' ∧ off = off' := by injection hA with hA; injection hA with e1 e2; exact ⟨e1, e2⟩
            clear hA
            have hx := hx0 (by omega)
            have hx1 : (((bs.getD a 0).toNat : Int) == 48) = false := by simpa using hx
            by_cases h20 : j = 20
            · subst h20
              have hS : Sl w B (.slice (some ⟨b, off + a, none⟩) 20 (c - a)) (D.take 20) := by
                have h1 := H.out.cut (k := a) ha
                rw [if_neg (by omega), ← HD.out] at h1
                have h2 := h1.front (k := 20) (by omega)
                have e0 : (some (⟨b, off, none⟩ : Addr)).map (·.add a) = some ⟨b, off + a, none⟩ := by simp [Addr.add]
                rw [e0] at h2
                exact h2
              have hcv := conv_bytes hS
              clear hS
              have hl0 : (⟨(D.take 20).toArray⟩ : ByteArray).toList = D.take 20 := ByteArray.toList_mk _
              have htot := less_total (D.take 20) top20
              have hnl : Op.bytesLess top20 (D.take 20) = false := by
                cases hh : Op.bytesLess top20 (D.take 20) with
                | false => rfl
                | true => exact absurd (Or.inr (Or.inr ⟨htl, hh⟩)) hbad
              rw [hnl, ← hl0] at htot
              unfold top20 at htot
              generalize (⟨(D.take 20).toArray⟩ : ByteArray) = S at hcv htot
              generalize bs.getD a 0 = x0 at hc0 hx hx1
              clear htk HS HG htl hl0 hx0 hlead hnl hbad
              cases hA : Op.bytesLess S.toList [49, 56, 52, 52, 54, 55, 52, 52, 48, 55, 51, 55, 48, 57, 53, 53, 49, 54, 49, 53] with
              | true =>
                clear htot
                go_wp2
                go_ret3
                first | (refine ⟨a + 20 + 1, ?_⟩; first | exact ⟨rfl, ⟨hen, HRest.out⟩, rfl⟩ | exact ⟨rfl, hen, HRest.out⟩ | exact ⟨rfl, fun _ => ⟨hen, HRest.out⟩, rfl⟩) | (refine ⟨⟨a + 20 + 1, ?_⟩, rfl⟩; first | exact ⟨rfl, hen, HRest.out⟩ | exact ⟨rfl, fun _ => ⟨hen, HRest.out⟩⟩)
              | false =>
                rw [hA] at htot
                have hB : (S.toList == [49, 56, 52, 52, 54, 55, 52, 52, 48, 55, 51, 55, 48, 57, 53, 53, 49, 54, 49, 53]) = true := by simpa using htot
                clear htot
                go_wp2
                go_ret3
                first | (refine ⟨a + 20 + 1, ?_⟩; first | exact ⟨rfl, ⟨hen, HRest.out⟩, rfl⟩ | exact ⟨rfl, hen, HRest.out⟩ | exact ⟨rfl, fun _ => ⟨hen, HRest.out⟩, rfl⟩) | (refine ⟨⟨a + 20 + 1, ?_⟩, rfl⟩; first | exact ⟨rfl, hen, HRest.out⟩ | exact ⟨rfl, fun _ => ⟨hen, HRest.out⟩⟩)
            · have hjb : ((a : Int) + (j : Int) - (a : Int) == 20) = false := by simp; omega
              generalize bs.getD a 0 = x0 at hc0 hx hx1
              clear htk HS HG htl hx0 hlead hbad
              go_wp2
              go_ret3
              first | (refine ⟨a + j + 1, ?_⟩; first | exact ⟨rfl, ⟨hen, HRest.out⟩, rfl⟩ | exact ⟨rfl, hen, HRest.out⟩ | exact ⟨rfl, fun _ => ⟨hen, HRest.out⟩, rfl⟩) | (refine ⟨⟨a + j + 1, ?_⟩, rfl⟩; first | exact ⟨rfl, hen, HRest.out⟩ | exact ⟨rfl, fun _ => ⟨hen, HRest.out⟩⟩)
      · rw [if_neg hde] at hsc
        have hx : (d.toNat : Int) ≠ (e.toNat : Int) := fun h => hde (UInt8.toNat_inj.1 (by omega))
        have hy : ((d.toNat : Int) == (e.toNat : Int)) = false := by simpa using hx
        have HDE := Lib.hid hde
        clear hde hx
        by_cases hdg : isDg d = false ∨ (D.take j).length = 20
        · rw [if_pos hdg] at hsc
          simp only [Prod.mk.injEq] at hsc
          obtain ⟨rfl, rfl, rfl⟩ := hsc
          by_cases h48 : (d.toNat : Int) < 48
          · clear htk HS htl hdg
            go_wp2
            go_ret3
            first | exact ⟨0, rfl⟩ | exact ⟨⟨0, rfl⟩, rfl⟩
          · by_cases h57 : (57 : Int) < (d.toNat : Int)
            · clear htk HS htl hdg
              go_wp2
              go_ret3
              first | exact ⟨0, rfl⟩ | exact ⟨⟨0, rfl⟩, rfl⟩
            · have hj' : j = 20 := by
                rcases hdg with h | h
                · simp [isDg] at h; omega
                · omega
              subst hj'
              clear htk HS htl hdg
              go_wp2
              go_ret3
              first | exact ⟨0, rfl⟩ | exact ⟨⟨0, rfl⟩, rfl⟩
        · rw [if_neg hdg, ← htk] at hsc
          have HN := Lib.hid (HR.out.trans hsc)
          have hall : ∀ x ∈ D.take (j + 1), isDg x = true := by
            rw [htk]
            intro x hx
            rcases List.mem_append.1 hx with h | h
            · exact HG.out x h
            · rw [List.mem_singleton.1 h]; simp at hdg; exact hdg.1
          have HALL := Lib.hid hall
          have h48 : (48 : Int) ≤ (d.toNat : Int) := by simp [isDg] at hdg; omega
          have h57 : (d.toNat : Int) ≤ 57 := by simp [isDg] at hdg; omega
          have hj' : (j : Int) ≤ 19 := by simp [isDg] at hdg; omega
          have hjb : ((a : Int) + (j : Int) - (a : Int) == 20) = false := by simp; omega
          have hfv : Hid (fv 0 (D.take (j + 1)) = 10 * fv 0 (D.take j) + (d.toNat - 48)) := by rw [htk, fv_append, fv_one]; exact Lib.hid rfl
          clear htk HS htl hdg hsc hall
          obtain ⟨F, hF⟩ : ∃ F, fv 0 (D.take (j + 1)) = F := ⟨_, rfl⟩
          have hwrap : IntKind.u64.wrap (IntKind.u64.wrap (10 * (y : Int)) + ((d.toNat : Int) - 48)) = (F : Int) % 18446744073709551616 := by
            have h1 := hfv.out
            have h2 := HY.out
            rw [hF] at h1
            rw [IntKind.wrap_u64, IntKind.wrap_u64, h1]
            omega
          have hcast : (F : Int) % 18446744073709551616 = ((F % 18446744073709551616 : Nat) : Int) := by omega
          have HF := Lib.hid hF
          have HC := Lib.hid hcast
          clear hF hcast hfv HY HFV
          go_wp2
          go_round
          case rel =>
            refine ⟨j + 1, by omega, by omega, ?_, ?_, HN, HALL⟩
            · rw [HF.out, HC.out]
            · rw [show (a : Int) + (j : Int) + 1 = (a : Int) + ((j + 1 : Nat) : Int) from by omega]
          case measure => show _ - Int.toNat ((a : Int) + (j : Int) + 1) < _ - Int.toNat ((a : Int) + (j : Int)); omega
    · have hj' : j = D.length := by omega
      subst hj'
      have hsc := HS.out
      rw [HR.out, List.drop_eq_nil_of_le (by omega)] at hsc
      simp only [scan, Prod.mk.injEq] at hsc
      obtain ⟨rfl, rfl, rfl⟩ := hsc
      clear HS HG
      have i1 : (bs.length : Int) ≤ (a : Int) + (D.length : Int) := by omega
      go_wp2
      go_ret3
      first | exact ⟨0, rfl⟩ | exact ⟨⟨0, rfl⟩, rfl⟩

end Go.Proofs.YtfblgkcipnkhaaaGreatDoor.pk

/-
  The document's own reader: a value of what is left and the first error; what its calls answer is what the plain functions on lists give.
-/
namespace Go.Proofs.YtfblgkcipnkhaaaGreatDoor.pk
open Go Go.RowKit
set_option maxRecDepth 100000

theorem fail_any (A : Option Addr) (n c k e : Nat) (w : World) :
    Calls Tryz.prog 67 #[.agg #[.slice A n c, .int .i64 (k : Int)], .int .i64 (e : Int)] w fun x w' => x = .returned (.agg #[.slice A n c, .int .i64 ((if k = 0 then e else k : Nat) : Int)]) ∧ Below w.heap.size w w' := by
  by_cases hk : k = 0
  · subst hk
    rw [if_pos rfl]
    go_enter Tryz.func67, Tryz.ntmps67
    go_wp2
    exact bodyPost_ret (v := .agg #[.slice A n c, .int .i64 (e : Int)]) (by simp [results, Tryz.results67, go_sem]) rfl ⟨rfl, ((Below.refl _ _).alloc (Nat.le_refl _) _).alloc (by simp) _⟩
  · have hz : ((k : Int) == 0) = false := by simp; omega
    rw [if_neg hk]
    go_enter Tryz.func67, Tryz.ntmps67
    go_wp2
    exact bodyPost_ret (v := .agg #[.slice A n c, .int .i64 (k : Int)]) (by simp [results, Tryz.results67, go_sem]) rfl ⟨rfl, ((Below.refl _ _).alloc (Nat.le_refl _) _).alloc (by simp) _⟩

/-- What comes next has a letter, or the error. -/
def headK (l : UInt8) (bs : List UInt8) : Nat := match bs with
  | [] => 12
  | c :: _ => if c = l then 0 else 3

/-- Two cells of a block of one's own behind a call. -/
theorem own2 {w0 w' : World} {g : Nat} {x y : Value} {t : TypeId} (hg : w0.heap[g]? = some (.cells #[x, y] t (0, 0))) (hb : Below w0.heap.size w0 w') :
    w'.cell? ⟨g, 0, none⟩ = some x ∧ w'.cell? ⟨g, 1, none⟩ = some y ∧ w'.frozen? ⟨g, 0, none⟩ = false ∧ w'.frozen? ⟨g, 1, none⟩ = false := by
  have hlt : g < w0.heap.size := by
    rcases Nat.lt_or_ge g w0.heap.size with h | h
    · exact h
    · rw [Array.getElem?_eq_none h] at hg; cases hg
  have h := (hb.block g hlt).trans hg
  exact ⟨by rw [cell_of_row w' g 0 _ _ _ h]; rfl, by rw [cell_of_row w' g 1 _ _ _ h]; rfl, frozen_of_row w' g 0 _ _ h, frozen_of_row w' g 1 _ _ h⟩

theorem head_ok (A : Option Addr) (n c : Nat) (l : UInt8) (r : List UInt8) (w : World) {B : Nat} (hB : B ≤ w.heap.size) (h : Sl w B (.slice A n c) (l :: r)) :
    Calls Tryz.prog 87 #[.agg #[.slice A n c, .int .i64 0], .int .u8 (l.toNat : Int)] w fun x w' => x = .returned (.agg #[.slice A n c, .int .i64 0]) ∧ Below w.heap.size w w' := by
  obtain ⟨b, off, rfl, hb, rfl, hn, hc, hcell⟩ := h.head
  have hb' : b < w.heap.size := by omega
  have i0 : ((r.length : Int) + 1 == 0) = false := by simp; omega
  have i1 : (1 : Int) ≤ (r.length : Int) + 1 := by omega
  clear h
  go_enter Tryz.func87, Tryz.ntmps87
  go_wp2
  exact bodyPost_ret (v := .agg #[.slice (some ⟨b, off, none⟩) (r.length + 1) c, .int .i64 0]) (by simp [results, Tryz.results87, go_sem]) rfl ⟨rfl, ((Below.refl _ _).alloc (Nat.le_refl _) _).alloc (by simp) _⟩
theorem head_form (A : Option Addr) (n c : Nat) (l d : UInt8) (r : List UInt8) (w : World) {B : Nat} (hB : B ≤ w.heap.size) (h : Sl w B (.slice A n c) (d :: r)) (hd : d ≠ l) :
    Calls Tryz.prog 87 #[.agg #[.slice A n c, .int .i64 0], .int .u8 (l.toNat : Int)] w fun x w' => x = .returned (.agg #[.slice A n c, .int .i64 3]) ∧ Below w.heap.size w w' := by
  obtain ⟨b, off, rfl, hb, rfl, hn, hc, hcell⟩ := h.head
  have hb' : b < w.heap.size := by omega
  have i0 : ((r.length : Int) + 1 == 0) = false := by simp; omega
  have i1 : (1 : Int) ≤ (r.length : Int) + 1 := by omega
  have hx : (d.toNat : Int) ≠ (l.toNat : Int) := fun e => hd (UInt8.toNat_inj.1 (by omega))
  have hy : ((d.toNat : Int) != (l.toNat : Int)) = true := by simpa using hx
  clear h hd
  obtain ⟨w0, hw0⟩ : ∃ w0, w0 = (w.alloc (Obj.cells #[Value.slice (some ⟨b, off, none⟩) (r.length + 1) c, Value.int IntKind.i64 0] 63)).alloc (Obj.cells #[Value.slice none 0 0, Value.int IntKind.i64 0] 63) := ⟨_, rfl⟩
  have hb0 : Below w.heap.size w w0 := by rw [hw0]; exact ((Below.refl _ _).alloc (Nat.le_refl _) _).alloc (by simp) _
  have hg0 : w0.heap[w.heap.size + 1]? = some (.cells #[.slice none 0 0, .int .i64 0] 63 (0, 0)) := by rw [hw0]; exact heap_alloc2_new _ _ _
  have HW := Lib.hid hw0
  go_enter Tryz.func87, Tryz.ntmps87
  go_wp2_with fail
  rw [← hw0]
  refine (fail_any _ _ _ 0 3 w0).mono ?_
  rintro x w1 ⟨rfl, hb1⟩
  obtain ⟨c0, c1, f0, f1⟩ := own2 hg0 hb1
  have HB1 := Lib.hid (hb0.trans (hb1.mono hb0.size))
  clear hw0 hb0 hg0 hb1
  go_wp2
  exact bodyPost_ret (v := .agg #[.slice (some ⟨b, off, none⟩) (r.length + 1) c, .int .i64 3]) (by simp [results, Tryz.results87, go_sem, c0, c1]) rfl ⟨rfl, (HB1.out.setCell (by simp) _).setCell (by simp) _⟩
theorem head_end (A : Option Addr) (c : Nat) (l : UInt8) (w : World) :
    Calls Tryz.prog 87 #[.agg #[.slice A 0 c, .int .i64 0], .int .u8 (l.toNat : Int)] w fun x w' => x = .returned (.agg #[.slice A 0 c, .int .i64 12]) ∧ Below w.heap.size w w' := by
  obtain ⟨w0, hw0⟩ : ∃ w0, w0 = (w.alloc (Obj.cells #[Value.slice A 0 c, Value.int IntKind.i64 0] 63)).alloc (Obj.cells #[Value.slice none 0 0, Value.int IntKind.i64 0] 63) := ⟨_, rfl⟩
  have hb0 : Below w.heap.size w w0 := by rw [hw0]; exact ((Below.refl _ _).alloc (Nat.le_refl _) _).alloc (by simp) _
  have hg0 : w0.heap[w.heap.size + 1]? = some (.cells #[.slice none 0 0, .int .i64 0] 63 (0, 0)) := by rw [hw0]; exact heap_alloc2_new _ _ _
  have HW := Lib.hid hw0
  go_enter Tryz.func87, Tryz.ntmps87
  go_wp2_with fail
  rw [← hw0]
  refine (fail_any _ _ _ 0 12 w0).mono ?_
  rintro x w1 ⟨rfl, hb1⟩
  obtain ⟨c0, c1, f0, f1⟩ := own2 hg0 hb1
  have HB1 := Lib.hid (hb0.trans (hb1.mono hb0.size))
  clear hw0 hb0 hg0 hb1
  go_wp2
  exact bodyPost_ret (v := .agg #[.slice A 0 c, .int .i64 12]) (by simp [results, Tryz.results87, go_sem, c0, c1]) rfl ⟨rfl, (HB1.out.setCell (by simp) _).setCell (by simp) _⟩
theorem head_stop (A : Option Addr) (n c k : Nat) (l : UInt8) (w : World) (hk : k ≠ 0) :
    Calls Tryz.prog 87 #[.agg #[.slice A n c, .int .i64 (k : Int)], .int .u8 (l.toNat : Int)] w fun x w' => x = .returned (.agg #[.slice A n c, .int .i64 (k : Int)]) ∧ Below w.heap.size w w' := by
  have hz : ((k : Int) != 0) = true := by simp; omega
  go_enter Tryz.func87, Tryz.ntmps87
  go_wp2
  exact bodyPost_ret (v := .agg #[.slice A n c, .int .i64 (k : Int)]) (by simp [results, Tryz.results87, go_sem]) rfl ⟨rfl, ((Below.refl _ _).alloc (Nat.le_refl _) _).alloc (by simp) _⟩

theorem head_any (A : Option Addr) (n c k : Nat) (l : UInt8) (bs : List UInt8) (w : World) {B : Nat} (hB : B ≤ w.heap.size) (h : Sl w B (.slice A n c) bs) :
    Calls Tryz.prog 87 #[.agg #[.slice A n c, .int .i64 (k : Int)], .int .u8 (l.toNat : Int)] w fun x w' => x = .returned (.agg #[.slice A n c, .int .i64 ((if k = 0 then headK l bs else k : Nat) : Int)]) ∧ Below w.heap.size w w' := by
  by_cases hk : k = 0
  · subst hk
    rw [if_pos rfl]
    cases bs with
    | nil =>
      obtain ⟨rfl, _⟩ := h.len
      exact head_end A c l w
    | cons d r =>
      by_cases hd : d = l
      · subst hd
        have := head_ok A n c d r w hB h
        simpa [headK] using this
      · have := head_form A n c l d r w hB h hd
        simpa [headK, hd] using this
  · rw [if_neg hk]
    exact head_stop A n c k l w hk

theorem RefDone_any (A : Option Addr) (n c k : Nat) (w : World) :
    Calls Tryz.prog 37 #[.agg #[.slice A n c, .int .i64 (k : Int)]] w fun x w' => x = .returned (.int .i64 ((if k = 0 then (if n = 0 then 0 else 3) else k : Nat) : Int)) ∧ Below w.heap.size w w' := by
  by_cases hk : k = 0
  · subst hk
    rw [if_pos rfl]
    by_cases hn : n = 0
    · subst hn
      go_enter Tryz.func37, Tryz.ntmps37
      go_wp2
      go_ret
      exact ⟨rfl, (Below.refl _ _).alloc (Nat.le_refl _) _⟩
    · rw [if_neg hn]
      have hn' : (0 : Int) < (n : Int) := by omega
      go_enter Tryz.func37, Tryz.ntmps37
      go_wp2
      go_ret
      exact ⟨rfl, (Below.refl _ _).alloc (Nat.le_refl _) _⟩
  · rw [if_neg hk]
    have hz : ((k : Int) == 0) = false := by simp; omega
    go_enter Tryz.func37, Tryz.ntmps37
    go_wp2
    go_ret
    exact ⟨rfl, (Below.refl _ _).alloc (Nat.le_refl _) _⟩

end Go.Proofs.YtfblgkcipnkhaaaGreatDoor.pk

/-
  The document's own reader: taking a number off.
-/
namespace Go.Proofs.YtfblgkcipnkhaaaGreatDoor.pk
open Go Go.RowKit
set_option maxRecDepth 100000

theorem cut_more {w : World} {B : Nat} {A : Option Addr} {n c en : Nat} {bs rest : List UInt8} (h : Sl w B (.slice A n c) bs) (hen : en ≤ bs.length) (hr : rest = bs.drop en) (hne : ¬ c = en) :
    Sl w B (.slice (A.map (fun x => x.add en)) rest.length (c - en)) rest ∧ n - en = rest.length := by
  have h1 := h.cut hen
  rw [if_neg hne, ← hr] at h1
  obtain ⟨hn, _, _⟩ := h.len
  have hl : n - en = rest.length := by rw [hr, List.length_drop, hn]
  rw [hl] at h1
  exact ⟨h1, hl⟩
theorem cut_all {w : World} {B : Nat} {A : Option Addr} {n en : Nat} {bs rest : List UInt8} (h : Sl w B (.slice A n en) bs) (hen : en ≤ bs.length) (hr : rest = bs.drop en) :
    Sl w B (.slice A rest.length 0) rest ∧ n - en = rest.length := by
  have h1 := h.cut hen
  rw [if_pos rfl, ← hr, Nat.sub_self] at h1
  obtain ⟨hn, _, _⟩ := h.len
  have hl : n - en = rest.length := by rw [hr, List.length_drop, hn]
  rw [hl] at h1
  exact ⟨h1, hl⟩

/-- A block of the reader's two cells. -/
def RB (w : World) (g : Nat) (x y : Value) : Prop := w.heap[g]? = some (.cells #[x, y] 63 (0, 0))

theorem RB.lt {w : World} {g : Nat} {x y : Value} (h : RB w g x y) : g < w.heap.size := by
  rcases Nat.lt_or_ge g w.heap.size with hlt | hge
  · exact hlt
  · unfold RB at h; rw [Array.getElem?_eq_none hge] at h; cases h
theorem RB.below {w w' : World} {g : Nat} {x y : Value} (h : RB w g x y) (hb : Below w.heap.size w w') : RB w' g x y := (hb.block g h.lt).trans h
theorem RB.set {w : World} {g : Nat} {x y : Value} (h : RB w g x y) (a b : Value) : RB ((w.setCell ⟨g, 0, none⟩ a).setCell ⟨g, 1, none⟩ b) g a b := by
  unfold RB at *
  simp [World.setCell, Array.getElem?_modify, h]
theorem RB.set0 {w : World} {g : Nat} {x y : Value} (h : RB w g x y) (a : Value) : RB (w.setCell ⟨g, 0, none⟩ a) g a y := by
  unfold RB at *
  simp [World.setCell, Array.getElem?_modify, h]
theorem RB.other {w : World} {g k : Nat} {x y : Value} (h : RB w g x y) (hne : g ≠ k) (a b : Value) : RB ((w.setCell ⟨k, 0, none⟩ a).setCell ⟨k, 1, none⟩ b) g x y := by
  unfold RB at *
  rw [heap_setCell_other _ _ _ _ hne, heap_setCell_other _ _ _ _ hne]; exact h
theorem RB.other0 {w : World} {g k : Nat} {x y : Value} (h : RB w g x y) (hne : g ≠ k) (a : Value) : RB (w.setCell ⟨k, 0, none⟩ a) g x y := by
  unfold RB at *
  rw [heap_setCell_other _ _ _ _ hne]; exact h
theorem RB.facts {w : World} {g : Nat} {x y : Value} (h : RB w g x y) : w.cell? ⟨g, 0, none⟩ = some x ∧ w.cell? ⟨g, 1, none⟩ = some y ∧ w.frozen? ⟨g, 0, none⟩ = false ∧ w.frozen? ⟨g, 1, none⟩ = false :=
  ⟨by rw [cell_of_row w g 0 _ _ _ h]; rfl, by rw [cell_of_row w g 1 _ _ _ h]; rfl, frozen_of_row w g 0 _ _ h, frozen_of_row w g 1 _ _ h⟩
theorem sizeSet2 (w : World) (g : Nat) (a b : Value) : ((w.setCell ⟨g, 0, none⟩ a).setCell ⟨g, 1, none⟩ b).heap.size = w.heap.size := by
  simp [World.setCell]

theorem ReadUint_err (A : Option Addr) (n c k : Nat) (most : Nat) (bs : List UInt8) (k1 : Nat) (w : World) {B : Nat} (hB : B ≤ w.heap.size) (h : Sl w B (.slice A n c) bs)
    (hk : (if k = 0 then headK 110 bs else k) = k1) (hk1 : k1 ≠ 0) :
    Calls Tryz.prog 66 #[.agg #[.slice A n c, .int .i64 (k : Int)], .int .u64 (most : Int)] w fun x w' => x = .returned (.tuple #[.agg #[.slice A n c, .int .i64 (k1 : Int)], .int .u64 0]) ∧ Below w.heap.size w w' := by
  have hz : ((k1 : Int) != 0) = true := by simp; omega
  obtain ⟨w0, hw0⟩ : ∃ w0, w0 = (w.alloc (Obj.cells #[Value.slice A n c, Value.int IntKind.i64 (k : Int)] 63)).alloc (Obj.cells #[Value.slice none 0 0, Value.int IntKind.i64 0] 63) := ⟨_, rfl⟩
  have hb0 : Below w.heap.size w w0 := by rw [hw0]; exact ((Below.refl _ _).alloc (Nat.le_refl _) _).alloc (by simp) _
  have hX : RB w0 w.heap.size (.slice A n c) (.int .i64 (k : Int)) := by rw [hw0]; exact heap_alloc2_old _ _ _
  have hY : RB w0 (w.heap.size + 1) (.slice none 0 0) (.int .i64 0) := by rw [hw0]; exact heap_alloc2_new _ _ _
  have H := Lib.hid (head_any A n c k 110 bs w0 (Nat.le_trans hB hb0.size) (h.below (hb0.mono hB)))
  rw [hk] at H
  clear h
  go_enter Tryz.func66, Tryz.ntmps66
  go_wp2_with fail
  rw [← hw0]
  refine H.out.mono ?_
  rintro x w1 ⟨rfl, hb1⟩
  obtain ⟨x0, x1, xf0, xf1⟩ := (hX.below hb1).facts
  obtain ⟨y0, y1, yf0, yf1⟩ := (hY.below hb1).facts
  have HB1 := Lib.hid (hb0.trans (hb1.mono hb0.size))
  clear hw0 hb0 hX hY hb1 hk hk1
  go_wp2
  exact bodyPost_ret (v := .tuple #[.agg #[.slice A n c, .int .i64 (k1 : Int)], .int .u64 0]) (by simp [results, Tryz.results66, go_sem, y0, y1]) rfl ⟨rfl, (((HB1.out.setCell (by simp) _).setCell (by simp) _).setCell (by simp) _).setCell (by simp) _⟩

theorem ReadUint_dig (A : Option Addr) (n c : Nat) (most : Nat) (r : List UInt8) (k m : Nat) (rest : List UInt8) (w : World) {B : Nat} (hB : B ≤ w.heap.size) (h : Sl w B (.slice A n c) (110 :: r))
    (hr : scan 59 [] r = (k, m, rest)) (k2 : Nat) (hk : (k ≠ 0 ∧ k2 = k) ∨ (k = 0 ∧ most < m ∧ k2 = 4)) :
    Calls Tryz.prog 66 #[.agg #[.slice A n c, .int .i64 0], .int .u64 (most : Int)] w fun x w' => x = .returned (.tuple #[.agg #[.slice A n c, .int .i64 (k2 : Int)], .int .u64 0]) ∧ Below w.heap.size w w' := by
  obtain ⟨w0, hw0⟩ : ∃ w0, w0 = (w.alloc (Obj.cells #[Value.slice A n c, Value.int IntKind.i64 0] 63)).alloc (Obj.cells #[Value.slice none 0 0, Value.int IntKind.i64 0] 63) := ⟨_, rfl⟩
  have hb0 : Below w.heap.size w w0 := by rw [hw0]; exact ((Below.refl _ _).alloc (Nat.le_refl _) _).alloc (by simp) _
  have hX : RB w0 w.heap.size (.slice A n c) (.int .i64 0) := by rw [hw0]; exact heap_alloc2_old _ _ _
  have hY : RB w0 (w.heap.size + 1) (.slice none 0 0) (.int .i64 0) := by rw [hw0]; exact heap_alloc2_new _ _ _
  have H := Lib.hid (head_any A n c 0 110 (110 :: r) w0 (Nat.le_trans hB hb0.size) (h.below (hb0.mono hB)))
  rw [if_pos rfl, show headK 110 (110 :: r) = 0 from rfl] at H
  have HS := Lib.hid h
  clear h
  go_enter Tryz.func66, Tryz.ntmps66
  go_wp2_with fail
  rw [← hw0]
  refine H.out.mono ?_
  rintro x w1 ⟨rfl, hb1⟩
  have hX1 := hX.below hb1
  have hY1 := hY.below hb1
  obtain ⟨x0, x1, xf0, xf1⟩ := hX1.facts
  have hB1 : Below w.heap.size w w1 := hb0.trans (hb1.mono hb0.size)
  have hY2 := Lib.hid (hY1.other (k := w.heap.size) (by omega) (.slice A n c) (.int .i64 0))
  have HB2 := Lib.hid (((hB1.setCell (p := ⟨w.heap.size, 0, none⟩) (Nat.le_refl _) (.slice A n c)).setCell (p := ⟨w.heap.size, 1, none⟩) (Nat.le_refl _) (.int .i64 0)))
  have HS2 := Lib.hid (HS.out.below (HB2.out.mono hB))
  have HR := Lib.hid hr
  clear hw0 hb0 hX hY hb1 hX1 hY1 hB1 hr
  rcases hk with ⟨hk, rfl⟩ | ⟨rfl, hm, rfl⟩
  · have hz : ((k2 : Int) != 0) = true := by simp; omega
    have hz' : ((k2 : Int) == 0) = false := by simp; omega
    have HK := Lib.hid hk
    clear hk
    go_wp2_with (first
      | (go_at_call 88; refine (digits_any A n c 1 59 (110 :: r) _ HS2.out (by simp) (by decide) k2 m rest (by rw [List.drop_one]; exact HR.out)).mono ?_; rintro x w2 ⟨en, rfl, hen, rfl⟩; clear hen)
      | (go_at_call 67; refine (fail_any _ _ _ 0 k2 _).mono ?_; rw [if_pos rfl]; rintro x w3 ⟨rfl, hb3⟩; obtain ⟨y0, y1, yf0, yf1⟩ := (hY2.out.below hb3).facts; have HB3 := Lib.hid (HB2.out.trans (hb3.mono HB2.out.size)); clear hb3))
    exact bodyPost_ret (v := .tuple #[.agg #[.slice A n c, .int .i64 (k2 : Int)], .int .u64 0]) (by simp [results, Tryz.results66, go_sem, y0, y1]) rfl ⟨rfl, (HB3.out.setCell (by simp) _).setCell (by simp) _⟩
  · have hi : (most : Int) < (m : Int) := by omega
    go_wp2_with (first
      | (go_at_call 88; refine (digits_any A n c 1 59 (110 :: r) _ HS2.out (by simp) (by decide) 0 m rest (by rw [List.drop_one]; exact HR.out)).mono ?_; rintro x w2 ⟨en, rfl, hen, rfl⟩; clear hen)
      | (go_at_call 67; refine (fail_any _ _ _ 0 4 _).mono ?_; rw [if_pos rfl]; rintro x w3 ⟨rfl, hb3⟩; obtain ⟨y0, y1, yf0, yf1⟩ := (hY2.out.below hb3).facts; have HB3 := Lib.hid (HB2.out.trans (hb3.mono HB2.out.size)); clear hb3))
    exact bodyPost_ret (v := .tuple #[.agg #[.slice A n c, .int .i64 4], .int .u64 0]) (by simp [results, Tryz.results66, go_sem, y0, y1]) rfl ⟨rfl, (HB3.out.setCell (by simp) _).setCell (by simp) _⟩

theorem ReadUint_ok (A : Option Addr) (n c : Nat) (most : Nat) (r : List UInt8) (m : Nat) (rest : List UInt8) (w : World) {B : Nat} (hB : B ≤ w.heap.size) (h : Sl w B (.slice A n c) (110 :: r))
    (hr : scan 59 [] r = (0, m, rest)) (hm : m ≤ most) :
    Calls Tryz.prog 66 #[.agg #[.slice A n c, .int .i64 0], .int .u64 (most : Int)] w fun x w' => ∃ A' c', x = .returned (.tuple #[.agg #[.slice A' rest.length c', .int .i64 0], .int .u64 (m : Int)]) ∧ Sl w' B (.slice A' rest.length c') rest ∧ Below w.heap.size w w' := by
  obtain ⟨w0, hw0⟩ : ∃ w0, w0 = (w.alloc (Obj.cells #[Value.slice A n c, Value.int IntKind.i64 0] 63)).alloc (Obj.cells #[Value.slice none 0 0, Value.int IntKind.i64 0] 63) := ⟨_, rfl⟩
  have hb0 : Below w.heap.size w w0 := by rw [hw0]; exact ((Below.refl _ _).alloc (Nat.le_refl _) _).alloc (by simp) _
  have hX : RB w0 w.heap.size (.slice A n c) (.int .i64 0) := by rw [hw0]; exact heap_alloc2_old _ _ _
  have hY : RB w0 (w.heap.size + 1) (.slice none 0 0) (.int .i64 0) := by rw [hw0]; exact heap_alloc2_new _ _ _
  have H := Lib.hid (head_any A n c 0 110 (110 :: r) w0 (Nat.le_trans hB hb0.size) (h.below (hb0.mono hB)))
  rw [if_pos rfl, show headK 110 (110 :: r) = 0 from rfl] at H
  have HS := Lib.hid h
  clear h
  go_enter Tryz.func66, Tryz.ntmps66
  go_wp2_with fail
  rw [← hw0]
  refine H.out.mono ?_
  rintro x w1 ⟨rfl, hb1⟩
  have hX1 := hX.below hb1
  have hY1 := hY.below hb1
  obtain ⟨x0, x1, xf0, xf1⟩ := hX1.facts
  obtain ⟨y0, y1, yf0, yf1⟩ := hY1.facts
  have hB1 : Below w.heap.size w w1 := hb0.trans (hb1.mono hb0.size)
  have HB2 := Lib.hid (((hB1.setCell (p := ⟨w.heap.size, 0, none⟩) (Nat.le_refl _) (.slice A n c)).setCell (p := ⟨w.heap.size, 1, none⟩) (Nat.le_refl _) (.int .i64 0)))
  have HS2 := Lib.hid (HS.out.below (HB2.out.mono hB))
  have HR := Lib.hid hr
  obtain ⟨hl1, hl2, hl3⟩ := HS.out.len
  have HL := Lib.hid hl1
  have i2 : (n : Int) ≤ (c : Int) := by omega
  have hi : (m : Int) ≤ (most : Int) := by omega
  clear hw0 hb0 hX hY hb1 hX1 hY1 hB1 hr hl1
  go_wp2_with (first
      | (go_at_call 88; (refine (digits_any A n c 1 59 (110 :: r) _ HS2.out (by simp) (by decide) 0 m rest (by rw [List.drop_one]; exact HR.out)).mono ?_; rintro x w2 ⟨en, rfl, hen, rfl⟩; have hen1 := (hen rfl).1; have HEN := Lib.hid (hen rfl).2; have i1 : (en : Int) ≤ (n : Int) := (by have h0 := HL.out; omega); clear hen)))
  all_goals first
    | (have hne : ¬ c = en := by omega
       obtain ⟨hS, hl⟩ := cut_more HS.out hen1 HEN.out hne
       rw [hl]
       have hBf := Lib.hid (((HB2.out.setCell (p := ⟨w.heap.size, 0, none⟩) (Nat.le_refl _) (.slice (A.map (fun x => x.add en)) rest.length (c - en))).setCell (p := ⟨w.heap.size + 1, 0, none⟩) (by simp) (.slice (A.map (fun x => x.add en)) rest.length (c - en))).setCell (p := ⟨w.heap.size + 1, 1, none⟩) (by simp) (.int .i64 0))
       exact bodyPost_ret (v := .tuple #[.agg #[.slice (A.map (fun x => x.add en)) rest.length (c - en), .int .i64 0], .int .u64 (m : Int)]) (by simp [results, Tryz.results66, go_sem, y0, y1]) rfl ⟨_, _, rfl, Sl.below hS (hBf.out.mono hB), hBf.out⟩)
    | (have hce : c = en := by omega
       subst hce
       obtain ⟨hS, hl⟩ := cut_all HS.out hen1 HEN.out
       rw [hl]
       have hBf := Lib.hid (((HB2.out.setCell (p := ⟨w.heap.size, 0, none⟩) (Nat.le_refl _) (.slice A rest.length 0)).setCell (p := ⟨w.heap.size + 1, 0, none⟩) (by simp) (.slice A rest.length 0)).setCell (p := ⟨w.heap.size + 1, 1, none⟩) (by simp) (.int .i64 0))
       exact bodyPost_ret (v := .tuple #[.agg #[.slice A rest.length 0, .int .i64 0], .int .u64 (m : Int)]) (by simp [results, Tryz.results66, go_sem, y0, y1]) rfl ⟨_, _, rfl, Sl.below hS (hBf.out.mono hB), hBf.out⟩)

end Go.Proofs.YtfblgkcipnkhaaaGreatDoor.pk

/-
  The document's own reader: a number; what is left at the end.
-/
namespace Go.Proofs.YtfblgkcipnkhaaaGreatDoor.pk
open Go Go.RowKit
set_option maxRecDepth 100000

theorem headK_ne {l : UInt8} {bs : List UInt8} (h : headK l bs ≠ 0) : ∀ e, hd l e bs = (headK l bs, 0, []) := by
  intro e
  cases bs with
  | nil => rfl
  | cons c r =>
    by_cases hc : c = l
    · simp [headK, hc] at h
    · rw [hd_cons, if_neg hc]; simp [headK, hc]
theorem headK_eq {l : UInt8} {bs : List UInt8} (h : headK l bs = 0) : ∃ r, bs = l :: r := by
  cases bs with
  | nil => simp [headK] at h
  | cons c r =>
    by_cases hc : c = l
    · exact ⟨r, by rw [hc]⟩
    · simp [headK, hc] at h

theorem ReadUint_any (A : Option Addr) (n c k : Nat) (most : Nat) (bs : List UInt8) (w : World) {B : Nat} (hB : B ≤ w.heap.size) (h : Sl w B (.slice A n c) bs) :
    Calls Tryz.prog 66 #[.agg #[.slice A n c, .int .i64 (k : Int)], .int .u64 (most : Int)] w fun x w' =>
      ∃ A' c', x = .returned (.tuple #[.agg #[.slice A' (rUint most (bs, k)).1.1.length c', .int .i64 ((rUint most (bs, k)).1.2 : Int)], .int .u64 ((rUint most (bs, k)).2 : Int)]) ∧ Sl w' B (.slice A' (rUint most (bs, k)).1.1.length c') (rUint most (bs, k)).1.1 ∧ Below w.heap.size w w' := by
  obtain ⟨hn, _, _⟩ := h.len
  by_cases hk : (if k = 0 then headK 110 bs else k) = 0
  · by_cases h0 : k = 0
    · subst h0
      rw [if_pos rfl] at hk
      obtain ⟨r, rfl⟩ := headK_eq hk
      rcases hr : scan 59 [] r with ⟨k1, m, rest⟩
      have hrd : rdUint most (110 :: r) = if k1 = 0 then (if most < m then (4, 0, []) else (0, m, rest)) else (k1, 0, []) := by
        unfold rdUint
        rw [hd_cons, if_pos rfl, hr]
        cases k1 with
        | zero => rfl
        | succ k => rfl
      by_cases hk1 : k1 = 0
      · subst hk1
        rw [if_pos rfl] at hrd
        by_cases hm : most < m
        · rw [if_pos hm] at hrd
          have e : rUint most (110 :: r, 0) = ((110 :: r, 4), 0) := by simp [rUint, hrd]
          rw [e]
          refine (ReadUint_dig A n c most r 0 m rest w hB h hr 4 (Or.inr ⟨rfl, hm, rfl⟩)).mono ?_
          rintro x w' ⟨rfl, hb⟩
          subst hn
          exact ⟨A, c, rfl, h.below (hb.mono hB), hb⟩
        · rw [if_neg hm] at hrd
          have e : rUint most (110 :: r, 0) = ((rest, 0), m) := by simp [rUint, hrd]
          rw [e]
          exact ReadUint_ok A n c most r m rest w hB h hr (by omega)
      · rw [if_neg hk1] at hrd
        have e : rUint most (110 :: r, 0) = ((110 :: r, k1), 0) := by simp [rUint, hrd, hk1]
        rw [e]
        refine (ReadUint_dig A n c most r k1 m rest w hB h hr k1 (Or.inl ⟨hk1, rfl⟩)).mono ?_
        rintro x w' ⟨rfl, hb⟩
        subst hn
        exact ⟨A, c, rfl, h.below (hb.mono hB), hb⟩
    · rw [if_neg h0] at hk
      exact absurd hk h0
  · have e : rUint most (bs, k) = ((bs, if k = 0 then headK 110 bs else k), 0) := by
      by_cases h0 : k = 0
      · subst h0
        rw [if_pos rfl] at hk ⊢
        have hh := headK_ne hk 59
        obtain ⟨j, hj⟩ : ∃ j, headK 110 bs = j + 1 := ⟨headK 110 bs - 1, by omega⟩
        rw [hj] at hh ⊢
        simp [rUint, rdUint, hh]
      · rw [if_neg h0]; simp [rUint, h0]
    rw [e]
    refine (ReadUint_err A n c k most bs _ w hB h rfl hk).mono ?_
    rintro x w' ⟨rfl, hb⟩
    subst hn
    exact ⟨A, c, rfl, h.below (hb.mono hB), hb⟩

theorem RefDone_s (A : Option Addr) (n c k : Nat) (bs : List UInt8) (hn : n = bs.length) (w : World) (d : Nat) (hd : d = doneR (bs, k)) :
    Calls Tryz.prog 37 #[.agg #[.slice A n c, .int .i64 (k : Int)]] w fun x w' => x = .returned (.int .i64 (d : Int)) ∧ Below w.heap.size w w' := by
  have h := RefDone_any A n c k w
  have e : (if k = 0 then (if n = 0 then 0 else 3) else k) = d := by
    rw [hd]
    unfold doneR
    by_cases h0 : k = 0
    · subst h0
      by_cases h1 : n = 0
      · rw [if_pos rfl, if_pos h1, if_neg (by rintro ⟨_, h⟩; simp only at h; omega)]
      · rw [if_pos rfl, if_neg h1, if_pos ⟨rfl, by simp only; omega⟩]
    · rw [if_neg h0, if_neg (by rintro ⟨h, _⟩; exact h0 h)]
  rw [e] at h
  exact h
theorem ReadUint_s (A : Option Addr) (n c k most : Nat) (bs : List UInt8) (w : World) (B : Nat) (hB : B ≤ w.heap.size) (h : Sl w B (.slice A n c) bs) (s1 : List UInt8) (k1 v n1 : Nat) (hr : rUint most (bs, k) = ((s1, k1), v)) (hn : n1 = s1.length) :
    Calls Tryz.prog 66 #[.agg #[.slice A n c, .int .i64 (k : Int)], .int .u64 (most : Int)] w fun x w' =>
      ∃ A' c', x = .returned (.tuple #[.agg #[.slice A' n1 c', .int .i64 (k1 : Int)], .int .u64 (v : Int)]) ∧ Sl w' B (.slice A' n1 c') s1 ∧ Below w.heap.size w w' := by
  have := ReadUint_any A n c k most bs w hB h
  rw [hr] at this
  subst hn
  exact this

end Go.Proofs.YtfblgkcipnkhaaaGreatDoor.pk

/-
  The document's own reader: a truth.
-/
namespace Go.Proofs.YtfblgkcipnkhaaaGreatDoor.pk
open Go Go.RowKit
set_option maxRecDepth 100000

theorem bool_stop (A : Option Addr) (n c k : Nat) (w : World) (hk : k ≠ 0) :
    Calls Tryz.prog 33 #[.agg #[.slice A n c, .int .i64 (k : Int)]] w fun x w' => x = .returned (.tuple #[.agg #[.slice A n c, .int .i64 (k : Int)], .bool false]) ∧ Below w.heap.size w w' := by
  have hz : ((k : Int) != 0) = true := by simp; omega
  go_enter Tryz.func33, Tryz.ntmps33
  go_wp2
  exact bodyPost_ret (v := .tuple #[.agg #[.slice A n c, .int .i64 (k : Int)], .bool false]) (by simp [results, Tryz.results33, go_sem]) rfl ⟨rfl, ((Below.refl _ _).alloc (Nat.le_refl _) _).alloc (by simp) _⟩

theorem bool_end (A : Option Addr) (c : Nat) (w : World) :
    Calls Tryz.prog 33 #[.agg #[.slice A 0 c, .int .i64 0]] w fun x w' => x = .returned (.tuple #[.agg #[.slice A 0 c, .int .i64 12], .bool false]) ∧ Below w.heap.size w w' := by
  obtain ⟨w0, hw0⟩ : ∃ w0, w0 = (w.alloc (Obj.cells #[Value.slice A 0 c, Value.int IntKind.i64 0] 63)).alloc (Obj.cells #[Value.slice none 0 0, Value.int IntKind.i64 0] 63) := ⟨_, rfl⟩
  have hb0 : Below w.heap.size w w0 := by rw [hw0]; exact ((Below.refl _ _).alloc (Nat.le_refl _) _).alloc (by simp) _
  have hY : RB w0 (w.heap.size + 1) (.slice none 0 0) (.int .i64 0) := by rw [hw0]; exact heap_alloc2_new _ _ _
  have H := Lib.hid (fail_any A 0 c 0 12 w0)
  rw [if_pos rfl] at H
  go_enter Tryz.func33, Tryz.ntmps33
  go_wp2_with fail
  rw [← hw0]
  refine H.out.mono ?_
  rintro x w1 ⟨rfl, hb1⟩
  obtain ⟨y0, y1, yf0, yf1⟩ := (hY.below hb1).facts
  have HB1 := Lib.hid (hb0.trans (hb1.mono hb0.size))
  clear hw0 hb0 hY hb1
  go_wp2
  exact bodyPost_ret (v := .tuple #[.agg #[.slice A 0 c, .int .i64 12], .bool false]) (by simp [results, Tryz.results33, go_sem, y0, y1]) rfl ⟨rfl, (HB1.out.setCell (by simp) _).setCell (by simp) _⟩

theorem bool_form (A : Option Addr) (n c : Nat) (d : UInt8) (r : List UInt8) (w : World) {B : Nat} (hB : B ≤ w.heap.size) (h : Sl w B (.slice A n c) (d :: r)) (h1 : d ≠ 121) (h2 : d ≠ 122) :
    Calls Tryz.prog 33 #[.agg #[.slice A n c, .int .i64 0]] w fun x w' => x = .returned (.tuple #[.agg #[.slice A n c, .int .i64 3], .bool false]) ∧ Below w.heap.size w w' := by
  obtain ⟨b, off, rfl, hb, rfl, hn, hc, hcell⟩ := h.head
  have hb' : b < w.heap.size := by omega
  have i0 : ((r.length : Int) + 1 == 0) = false := by simp; omega
  have i1 : (1 : Int) ≤ (r.length : Int) + 1 := by omega
  have x1 : (d.toNat : Int) ≠ 121 := fun e => h1 (UInt8.toNat_inj.1 (by show d.toNat = 121; omega))
  have x2 : (d.toNat : Int) ≠ 122 := fun e => h2 (UInt8.toNat_inj.1 (by show d.toNat = 122; omega))
  have y1 : ((d.toNat : Int) != 121) = true := by simpa using x1
  have y2 : ((d.toNat : Int) != 122) = true := by simpa using x2
  obtain ⟨w0, hw0⟩ : ∃ w0, w0 = (w.alloc (Obj.cells #[Value.slice (some ⟨b, off, none⟩) (r.length + 1) c, Value.int IntKind.i64 0] 63)).alloc (Obj.cells #[Value.slice none 0 0, Value.int IntKind.i64 0] 63) := ⟨_, rfl⟩
  have hb0 : Below w.heap.size w w0 := by rw [hw0]; exact ((Below.refl _ _).alloc (Nat.le_refl _) _).alloc (by simp) _
  have hY : RB w0 (w.heap.size + 1) (.slice none 0 0) (.int .i64 0) := by rw [hw0]; exact heap_alloc2_new _ _ _
  have H := Lib.hid (fail_any (some ⟨b, off, none⟩) (r.length + 1) c 0 3 w0)
  rw [if_pos rfl] at H
  clear h h1 h2 x1 x2
  go_enter Tryz.func33, Tryz.ntmps33
  go_wp2_with fail
  rw [← hw0]
  refine H.out.mono ?_
  rintro x w1 ⟨rfl, hb1⟩
  obtain ⟨z0, z1, zf0, zf1⟩ := (hY.below hb1).facts
  have HB1 := Lib.hid (hb0.trans (hb1.mono hb0.size))
  clear hw0 hb0 hY hb1
  go_wp2
  exact bodyPost_ret (v := .tuple #[.agg #[.slice (some ⟨b, off, none⟩) (r.length + 1) c, .int .i64 3], .bool false]) (by simp [results, Tryz.results33, go_sem, z0, z1]) rfl ⟨rfl, (HB1.out.setCell (by simp) _).setCell (by simp) _⟩

theorem bool_ok (A : Option Addr) (n c : Nat) (is : Bool) (r : List UInt8) (w : World) {B : Nat} (hB : B ≤ w.heap.size) (h : Sl w B (.slice A n c) ((if is then 121 else 122) :: r)) (m : Nat) (hm : m = r.length) :
    Calls Tryz.prog 33 #[.agg #[.slice A n c, .int .i64 0]] w fun x w' => ∃ A' c', x = .returned (.tuple #[.agg #[.slice A' m c', .int .i64 0], .bool is]) ∧ Sl w' B (.slice A' m c') r ∧ Below w.heap.size w w' := by
  obtain ⟨b, off, rfl, hb, rfl, hn, hc, hcell⟩ := h.head
  subst hm
  have hb' : b < w.heap.size := by omega
  have i0 : ((r.length : Int) + 1 == 0) = false := by simp; omega
  have i1 : (1 : Int) ≤ (r.length : Int) + 1 := by omega
  have i2 : (r.length : Int) + 1 ≤ (c : Int) := by omega
  have hbf : ∀ v, Below w.heap.size w ((w.alloc (Obj.cells #[v, Value.int IntKind.i64 0] 63)).alloc (Obj.cells #[v, Value.int IntKind.i64 0] 63)) := fun v => ((Below.refl _ _).alloc (Nat.le_refl _) _).alloc (by simp) _
  by_cases hc1 : c = 1
  · subst hc1
    have HS := Lib.hid h.tail_one
    have hr0 : r.length = 0 := by omega
    cases is with
    | true =>
      have hcell' : w.cell? ⟨b, off, none⟩ = some (.int .u8 121) := hcell
      clear h hcell
      go_enter Tryz.func33, Tryz.ntmps33
      go_wp2
      exact bodyPost_ret (v := .tuple #[.agg #[.slice (some ⟨b, off, none⟩) r.length 0, .int .i64 0], .bool true]) (by simp [results, Tryz.results33, go_sem, hr0]) rfl ⟨_, _, rfl, HS.out.below ((hbf _).mono hB), hbf _⟩
    | false =>
      have hcell' : w.cell? ⟨b, off, none⟩ = some (.int .u8 122) := hcell
      clear h hcell
      go_enter Tryz.func33, Tryz.ntmps33
      go_wp2
      exact bodyPost_ret (v := .tuple #[.agg #[.slice (some ⟨b, off, none⟩) r.length 0, .int .i64 0], .bool false]) (by simp [results, Tryz.results33, go_sem, hr0]) rfl ⟨_, _, rfl, HS.out.below ((hbf _).mono hB), hbf _⟩
  · have HS := Lib.hid (h.tail_more hc1)
    cases is with
    | true =>
      have hcell' : w.cell? ⟨b, off, none⟩ = some (.int .u8 121) := hcell
      clear h hcell
      go_enter Tryz.func33, Tryz.ntmps33
      go_wp2
      exact bodyPost_ret (v := .tuple #[.agg #[.slice (some ⟨b, off + 1, none⟩) r.length (c - 1), .int .i64 0], .bool true]) (by simp [results, Tryz.results33, go_sem]) rfl ⟨_, _, rfl, HS.out.below ((hbf _).mono hB), hbf _⟩
    | false =>
      have hcell' : w.cell? ⟨b, off, none⟩ = some (.int .u8 122) := hcell
      clear h hcell
      go_enter Tryz.func33, Tryz.ntmps33
      go_wp2
      exact bodyPost_ret (v := .tuple #[.agg #[.slice (some ⟨b, off + 1, none⟩) r.length (c - 1), .int .i64 0], .bool false]) (by simp [results, Tryz.results33, go_sem]) rfl ⟨_, _, rfl, HS.out.below ((hbf _).mono hB), hbf _⟩

theorem ReadBool_s (A : Option Addr) (n c k : Nat) (bs : List UInt8) (w : World) (B : Nat) (hB : B ≤ w.heap.size) (h : Sl w B (.slice A n c) bs) (s1 : List UInt8) (k1 n1 : Nat) (v : Bool) (hr : rBool (bs, k) = ((s1, k1), v)) (hn : n1 = s1.length) :
    Calls Tryz.prog 33 #[.agg #[.slice A n c, .int .i64 (k : Int)]] w fun x w' =>
      ∃ A' c', x = .returned (.tuple #[.agg #[.slice A' n1 c', .int .i64 (k1 : Int)], .bool v]) ∧ Sl w' B (.slice A' n1 c') s1 ∧ Below w.heap.size w w' := by
  obtain ⟨hnl, -, -⟩ := h.len
  by_cases hk : k = 0
  · subst hk
    cases bs with
    | nil =>
      have e : rBool ([], 0) = (([], 12), false) := rfl
      rw [e] at hr
      simp only [Prod.mk.injEq] at hr
      obtain ⟨⟨rfl, rfl⟩, rfl⟩ := hr
      subst hnl
      subst hn
      exact (bool_end A c w).mono fun x w' ⟨e, hb⟩ => ⟨A, c, e, h.below (hb.mono hB), hb⟩
    | cons d r =>
      by_cases h1 : d = 121
      · subst h1
        have e : rBool (121 :: r, 0) = ((r, 0), true) := rfl
        rw [e] at hr
        simp only [Prod.mk.injEq] at hr
        obtain ⟨⟨rfl, rfl⟩, rfl⟩ := hr
        exact bool_ok A n c true r w hB h n1 hn
      · by_cases h2 : d = 122
        · subst h2
          have e : rBool (122 :: r, 0) = ((r, 0), false) := rfl
          rw [e] at hr
          simp only [Prod.mk.injEq] at hr
          obtain ⟨⟨rfl, rfl⟩, rfl⟩ := hr
          exact bool_ok A n c false r w hB h n1 hn
        · have e : rBool (d :: r, 0) = ((d :: r, 3), false) := by unfold rBool; simp [rdBool_cons, h1, h2]
          rw [e] at hr
          simp only [Prod.mk.injEq] at hr
          obtain ⟨⟨rfl, rfl⟩, rfl⟩ := hr
          rw [← hnl] at hn
          subst hn
          exact (bool_form A n1 c d r w hB h h1 h2).mono fun x w' ⟨e, hb⟩ => ⟨A, c, e, h.below (hb.mono hB), hb⟩
  · have e : rBool (bs, k) = ((bs, k), false) := by unfold rBool; rw [if_neg hk]
    rw [e] at hr
    simp only [Prod.mk.injEq] at hr
    obtain ⟨⟨rfl, rfl⟩, rfl⟩ := hr
    rw [← hnl] at hn
    subst hn
    exact (bool_stop A n1 c k w hk).mono fun x w' ⟨e, hb⟩ => ⟨A, c, e, h.below (hb.mono hB), hb⟩

end Go.Proofs.YtfblgkcipnkhaaaGreatDoor.pk

/-
  The document's own reader: bytes; a count; a message's number.
-/
namespace Go.Proofs.YtfblgkcipnkhaaaGreatDoor.pk
open Go Go.RowKit
set_option maxRecDepth 100000

theorem set4 {B : Nat} {a W : World} (h : Below B a W) (g : Nat) (hg : B ≤ g) (u v : Value) : Below B a ((((W.setCell ⟨g, 0, none⟩ u).setCell ⟨g, 1, none⟩ v).setCell ⟨g + 1, 0, none⟩ u).setCell ⟨g + 1, 1, none⟩ v) :=
  (((h.setCell (p := ⟨g, 0, none⟩) hg u).setCell (p := ⟨g, 1, none⟩) hg v).setCell (p := ⟨g + 1, 0, none⟩) (by simp only; omega) u).setCell (p := ⟨g + 1, 1, none⟩) (by simp only; omega) v
set_option maxHeartbeats 1000000 in
theorem number_s (A : Option Addr) (n c k : Nat) (bs : List UInt8) (w : World) (B : Nat) (hB : B ≤ w.heap.size) (h : Sl w B (.slice A n c) bs) (s1 : List UInt8) (k1 v n1 : Nat) (hr : rUint 1099511627776 (bs, k) = ((s1, k1), v)) (hn : n1 = s1.length) :
    Calls Tryz.prog 32 #[.agg #[.slice A n c, .int .i64 (k : Int)]] w fun x w' =>
      ∃ A' c', x = .returned (.tuple #[.agg #[.slice A' n1 c', .int .i64 (k1 : Int)], .int .i64 (v : Int)]) ∧ Sl w' B (.slice A' n1 c') s1 ∧ Below w.heap.size w w' := by
  obtain ⟨w0, hw0⟩ : ∃ w0, w0 = (w.alloc (Obj.cells #[Value.slice A n c, Value.int IntKind.i64 (k : Int)] 63)).alloc (Obj.cells #[Value.slice none 0 0, Value.int IntKind.i64 0] 63) := ⟨_, rfl⟩
  have hb0 : Below w.heap.size w w0 := by rw [hw0]; exact ((Below.refl _ _).alloc (Nat.le_refl _) _).alloc (by simp) _
  have hX : RB w0 w.heap.size (.slice A n c) (.int .i64 (k : Int)) := by rw [hw0]; exact heap_alloc2_old _ _ _
  have hY : RB w0 (w.heap.size + 1) (.slice none 0 0) (.int .i64 0) := by rw [hw0]; exact heap_alloc2_new _ _ _
  have H := Lib.hid (ReadUint_s A n c k 1099511627776 bs w0 B (Nat.le_trans hB hb0.size) (h.below (hb0.mono hB)) s1 k1 v n1 hr hn)
  have hv : v ≤ 1099511627776 := by
    by_cases h0 : k1 = 0
    · have := (rUint_inv (most := 1099511627776) (s := (bs, k)) (by rw [hr]; exact h0)).2.2.1
      rw [hr] at this
      exact this
    · have : v = 0 := by
        unfold rUint at hr
        by_cases h2 : k = 0
        · rw [if_pos h2] at hr
          by_cases h3 : (rdUint 1099511627776 bs).1 = 0
          · rw [if_pos h3] at hr
            simp only [Prod.mk.injEq] at hr
            exact absurd hr.1.2.symm h0
          · rw [if_neg h3] at hr
            simp only [Prod.mk.injEq] at hr
            exact hr.2.symm
        · rw [if_neg h2] at hr
          simp only [Prod.mk.injEq] at hr
          exact hr.2.symm
      omega
  have hw : IntKind.i64.wrap (v : Int) = (v : Int) := IntWalk.i64_in _ (by omega)
  have HK := Lib.hid hn
  clear h hr hn
  go_enter Tryz.func32, Tryz.ntmps32
  go_wp2_with fail
  rw [← hw0]
  refine H.out.mono ?_
  rintro x w1 ⟨A1, c1, rfl, hS, hb1⟩
  obtain ⟨x0, x1, xf0, xf1⟩ := (hX.below hb1).facts
  obtain ⟨y0, y1, yf0, yf1⟩ := (hY.below hb1).facts
  have HB1 := Lib.hid (And.intro (hb0.trans (hb1.mono hb0.size)) hS)
  clear hw0 hb0 hX hY hb1 hS
  go_wp2
  have hbf := set4 HB1.out.1 w.heap.size (Nat.le_refl _) (.slice A1 n1 c1) (.int .i64 (k1 : Int))
  have hbg := set4 (Below.refl B w1) w.heap.size hB (.slice A1 n1 c1) (.int .i64 (k1 : Int))
  exact bodyPost_ret (v := .tuple #[.agg #[.slice A1 n1 c1, .int .i64 (k1 : Int)], .int .i64 (v : Int)]) (by simp [results, Tryz.results32, go_sem, y0, y1]) rfl ⟨_, _, rfl, HB1.out.2.below hbg, hbf⟩

/-- The boxes of a reader's call, behind another one. -/
theorem box3 {B : Nat} {w w0 w1 : World} {g : Nat} {X0 X1 Y0 Y1 : Value} (u v : Value) (hg : B ≤ g) (hsz : g + 1 < w0.heap.size) (hb0 : Below B w w0) (hX : RB w0 g X0 X1) (hY : RB w0 (g + 1) Y0 Y1) (hb1 : Below w0.heap.size w0 w1) :
    ∃ W q, W = w1.alloc (Obj.cells #[u, v] 63) ∧ q = w1.heap.size ∧ g + 1 < q ∧ Below B w W ∧ RB W g X0 X1 ∧ RB W (g + 1) Y0 Y1 ∧ RB W q u v := by
  have hs1 := hb1.size
  have hbl := below_alloc w1 (Obj.cells #[u, v] 63)
  refine ⟨_, _, rfl, rfl, by omega, (hb0.trans (hb1.mono (Nat.le_trans (by omega) (Nat.le_refl _)))).trans (hbl.mono (by omega)), ?_, ?_, heap_alloc_new w1 _⟩
  · exact (hX.below hb1).below hbl
  · exact (hY.below hb1).below hbl

set_option maxHeartbeats 2000000 in
theorem ReadCount_s (A : Option Addr) (n c k most : Nat) (hmo : most ≤ 1000000) (bs : List UInt8) (w : World) (B : Nat) (hB : B ≤ w.heap.size) (h : Sl w B (.slice A n c) bs) (s1 : List UInt8) (k1 v n1 : Nat) (hr : rCount most (bs, k) = ((s1, k1), v)) (hn : n1 = s1.length) :
    Calls Tryz.prog 35 #[.agg #[.slice A n c, .int .i64 (k : Int)], .int .i64 (most : Int)] w fun x w' =>
      ∃ A' c', x = .returned (.tuple #[.agg #[.slice A' n1 c', .int .i64 (k1 : Int)], .int .i64 (v : Int)]) ∧ Sl w' B (.slice A' n1 c') s1 ∧ Below w.heap.size w w' := by
  obtain ⟨hnl, -, -⟩ := h.len
  obtain ⟨w0, hw0⟩ : ∃ w0, w0 = (w.alloc (Obj.cells #[Value.slice A n c, Value.int IntKind.i64 (k : Int)] 63)).alloc (Obj.cells #[Value.slice none 0 0, Value.int IntKind.i64 0] 63) := ⟨_, rfl⟩
  have hb0 : Below w.heap.size w w0 := by rw [hw0]; exact ((Below.refl _ _).alloc (Nat.le_refl _) _).alloc (by simp) _
  have hX : RB w0 w.heap.size (.slice A n c) (.int .i64 (k : Int)) := by rw [hw0]; exact heap_alloc2_old _ _ _
  have hY : RB w0 (w.heap.size + 1) (.slice none 0 0) (.int .i64 0) := by rw [hw0]; exact heap_alloc2_new _ _ _
  have hsz : w.heap.size + 1 < w0.heap.size := by rw [hw0]; simp
  rcases hu : rUint most (bs, k) with ⟨⟨t1, q1⟩, u⟩
  obtain ⟨nt, hnt⟩ : ∃ nt, nt = t1.length := ⟨_, rfl⟩
  have H := Lib.hid (ReadUint_s A n c k most bs w0 B (Nat.le_trans hB hb0.size) (h.below (hb0.mono hB)) t1 q1 u nt hu hnt)
  have hwm : IntKind.u64.wrap (most : Int) = (most : Int) := by rw [IntKind.wrap_u64]; omega
  have HK := Lib.hid (And.intro hb0 (And.intro hX (And.intro hY (And.intro hsz (And.intro hB h)))))
  have m0 : ¬ (most : Int) < 0 := by omega
  have hcase : (q1 ≠ 0 ∧ s1 = bs ∧ k1 = q1 ∧ v = 0 ∧ (k = 0 ∨ k = q1)) ∨ (q1 = 0 ∧ k = 0 ∧ nt < u ∧ s1 = bs ∧ k1 = 2 ∧ v = 0 ∧ u < 18446744073709551616) ∨ (q1 = 0 ∧ ¬ nt < u ∧ s1 = t1 ∧ k1 = 0 ∧ v = u ∧ u ≤ most) := by
    unfold rCount at hr
    by_cases hk : k = 0
    · subst hk
      unfold rUint at hu
      rw [if_pos rfl] at hr hu
      by_cases h1 : (rdUint most bs).1 = 0
      · rw [if_pos h1] at hu
        simp only [Prod.mk.injEq] at hu
        obtain ⟨⟨e1, e2⟩, e3⟩ := hu
        rw [if_neg (fun e => e h1)] at hr
        have e4 : (rdUint most (bs, 0).fst).snd.snd = t1 := e1
        have e5 : (rdUint most (bs, 0).fst).snd.fst = u := e3
        have e6 := (rdUint_inv (most := most) (l := bs) (n := u) (r := t1) (by rw [← e1, ← e3, ← h1])).2
        rw [e4, e5] at hr
        by_cases h2 : t1.length < u
        · rw [if_pos h2] at hr
          simp only [Prod.mk.injEq] at hr
          exact Or.inr (Or.inl ⟨e2.symm, rfl, by omega, hr.1.1.symm, hr.1.2.symm, hr.2.symm, e6.2⟩)
        · rw [if_neg h2] at hr
          simp only [Prod.mk.injEq] at hr
          exact Or.inr (Or.inr ⟨e2.symm, by omega, hr.1.1.symm, hr.1.2.symm, hr.2.symm, e6.1⟩)
      · rw [if_neg h1] at hu
        simp only [Prod.mk.injEq] at hu
        obtain ⟨⟨e1, e2⟩, e3⟩ := hu
        rw [if_pos h1] at hr
        simp only [Prod.mk.injEq] at hr
        exact Or.inl ⟨by rw [← e2]; exact h1, hr.1.1.symm, by rw [← hr.1.2]; exact e2, hr.2.symm, Or.inl rfl⟩
    · rw [if_neg hk] at hr
      unfold rUint at hu
      rw [if_neg hk] at hu
      simp only [Prod.mk.injEq] at hr hu
      exact Or.inl ⟨by rw [← hu.1.2]; exact hk, hr.1.1.symm, by rw [← hr.1.2]; exact hu.1.2, hr.2.symm, Or.inr hu.1.2⟩
  clear h hr hu hb0 hX hY hsz
  rcases hcase with ⟨c1, rfl, rfl, rfl, c2⟩ | ⟨rfl, rfl, c2, rfl, rfl, rfl, c3⟩ | ⟨rfl, c2, rfl, rfl, rfl, c3⟩
  · have hz : ((k1 : Int) != 0) = true := by simp; omega
    have HF := Lib.hid fun W => fail_any A n c k k1 W
    have hfe : (if k = 0 then k1 else k) = k1 := by
      rcases c2 with c2 | c2
      · rw [if_pos c2]
      · rw [c2]; split <;> rfl
    rw [hfe] at HF
    have HN := Lib.hid (And.intro hn hnl)
    clear c1 c2 hfe hn hnl hnt
    go_enter Tryz.func35, Tryz.ntmps35
    go_wp2_with fail
    rw [← hw0]
    refine H.out.mono ?_
    rintro x w1 ⟨A1, c1, rfl, hS, hb1⟩
    obtain ⟨W, q, hW, hq, hgq, hbW, hXW, hYW, hZW⟩ := box3 (.slice A1 nt c1) (.int .i64 (k1 : Int)) (Nat.le_refl _) HK.out.2.2.2.1 HK.out.1 HK.out.2.1 HK.out.2.2.1 hb1
    go_upto_region 4 with fail
    rw [← hW, ← hq]
    obtain ⟨x0, x1, xf0, xf1⟩ := hXW.facts
    obtain ⟨z0, z1, zf0, zf1⟩ := hZW.facts
    have HW := Lib.hid (And.intro hbW (And.intro hYW hW))
    clear hS hb1 hW hbW hXW hYW hZW hw0 hq hgq
    go_wp2_with (go_at_call 67; go_must (refine (HF.out _).mono ?_; rintro x w3 ⟨rfl, hb3⟩; obtain ⟨y0, y1, yf0, yf1⟩ := (HW.out.2.1.below hb3).facts; have HB3 := Lib.hid (HW.out.1.trans (hb3.mono HW.out.1.size)); clear hb3))
    have hbf := (HB3.out.setCell (p := ⟨w.heap.size + 1, 0, none⟩) (by simp) (.slice A n c)).setCell (p := ⟨w.heap.size + 1, 1, none⟩) (by simp) (.int .i64 (k1 : Int))
    have hn' := HN.out.1.trans HN.out.2.symm
    subst hn'
    exact bodyPost_ret (v := .tuple #[.agg #[.slice A n1 c, .int .i64 (k1 : Int)], .int .i64 0]) (by simp [results, Tryz.results35, go_sem, y0, y1]) rfl ⟨_, _, rfl, HK.out.2.2.2.2.2.below (hbf.mono HK.out.2.2.2.2.1), hbf⟩
  · have i1 : (nt : Int) < (u : Int) := by omega
    have hwu : IntKind.u64.wrap (nt : Int) = (nt : Int) := by rw [IntKind.wrap_u64]; omega
    have e0 : ((0 : Nat) : Int) = 0 := rfl
    rw [e0] at hw0 H HK
    have HF := Lib.hid fun W => fail_any A n c 0 2 W
    rw [if_pos rfl] at HF
    have HN := Lib.hid (And.intro hn hnl)
    clear c2 c3 hn hnl hnt hmo
    go_enter Tryz.func35, Tryz.ntmps35
    go_wp2_with fail
    rw [← hw0]
    refine H.out.mono ?_
    rintro x w1 ⟨A1, c1, rfl, hS, hb1⟩
    obtain ⟨W, q, hW, hq, hgq, hbW, hXW, hYW, hZW⟩ := box3 (.slice A1 nt c1) (.int .i64 0) (Nat.le_refl _) HK.out.2.2.2.1 HK.out.1 HK.out.2.1 HK.out.2.2.1 hb1
    go_upto_region 4 with fail
    rw [← hW, ← hq]
    obtain ⟨x0, x1, xf0, xf1⟩ := hXW.facts
    obtain ⟨z0, z1, zf0, zf1⟩ := hZW.facts
    have HW := Lib.hid (And.intro hbW (And.intro hYW hW))
    clear hS hb1 hW hbW hXW hYW hZW hw0 hq hgq
    go_wp2_with (go_at_call 67; go_must (refine (HF.out _).mono ?_; rintro x w3 ⟨rfl, hb3⟩; obtain ⟨y0, y1, yf0, yf1⟩ := (HW.out.2.1.below hb3).facts; have HB3 := Lib.hid (HW.out.1.trans (hb3.mono HW.out.1.size)); clear hb3))
    have hbf := (HB3.out.setCell (p := ⟨w.heap.size + 1, 0, none⟩) (by simp) (.slice A n c)).setCell (p := ⟨w.heap.size + 1, 1, none⟩) (by simp) (.int .i64 2)
    have hn' := HN.out.1.trans HN.out.2.symm
    subst hn'
    exact bodyPost_ret (v := .tuple #[.agg #[.slice A n1 c, .int .i64 2], .int .i64 0]) (by simp [results, Tryz.results35, go_sem, y0, y1]) rfl ⟨_, _, rfl, HK.out.2.2.2.2.2.below (hbf.mono HK.out.2.2.2.2.1), hbf⟩
  · have e0 : ((0 : Nat) : Int) = 0 := rfl
    have hn' : n1 = nt := by rw [hn, hnt]
    subst hn'
    have i1 : ¬ (n1 : Int) < (v : Int) := by omega
    have hwv : IntKind.i64.wrap (v : Int) = (v : Int) := IntWalk.i64_in _ (by omega)
    clear c2 c3 hn hnl hnt hmo
    go_enter Tryz.func35, Tryz.ntmps35
    go_wp2_with fail
    rw [← hw0]
    refine H.out.mono ?_
    rintro x w1 ⟨A1, c1, rfl, hS, hb1⟩
    obtain ⟨hl1, hl2, hl3⟩ := hS.len
    have hwu : IntKind.u64.wrap (n1 : Int) = (n1 : Int) := by rw [IntKind.wrap_u64]; omega
    clear hl1 hl2 hl3
    obtain ⟨W, q, hW, hq, hgq, hbW, hXW, hYW, hZW⟩ := box3 (.slice A1 n1 c1) (.int .i64 0) (Nat.le_refl _) HK.out.2.2.2.1 HK.out.1 HK.out.2.1 HK.out.2.2.1 hb1
    rw [e0]
    go_upto_region 4 with fail
    rw [← hW, ← hq]
    obtain ⟨y0, y1, yf0, yf1⟩ := hYW.facts
    obtain ⟨z0, z1, zf0, zf1⟩ := hZW.facts
    have hSW : Sl W B (.slice A1 n1 c1) s1 := by rw [hW]; exact hS.below (((below_alloc w1 _).mono (by have := hb1.size; have := HK.out.2.2.2.1; have := HK.out.2.2.2.2.1; omega)))
    have HW := Lib.hid (And.intro hbW hSW)
    clear hS hSW hb1 hW hbW hXW hYW hZW hw0 hq hgq
    go_wp2_with fail
    have hbf := (HW.out.1.setCell (p := ⟨w.heap.size + 1, 0, none⟩) (by simp) (.slice A1 n1 c1)).setCell (p := ⟨w.heap.size + 1, 1, none⟩) (by simp) (.int .i64 0)
    have hbg := ((Below.refl B W).setCell (p := ⟨w.heap.size + 1, 0, none⟩) (by have := HK.out.2.2.2.2.1; simp only; omega) (.slice A1 n1 c1)).setCell (p := ⟨w.heap.size + 1, 1, none⟩) (by have := HK.out.2.2.2.2.1; simp only; omega) (.int .i64 0)
    exact bodyPost_ret (v := .tuple #[.agg #[.slice A1 n1 c1, .int .i64 0], .int .i64 (v : Int)]) (by simp [results, Tryz.results35, go_sem, y0, y1]) rfl ⟨_, _, rfl, HW.out.2.below hbg, hbf⟩

end Go.Proofs.YtfblgkcipnkhaaaGreatDoor.pk
