/-
  The law's own copies of entries: giveEntry, giveEntries; longEntries.
-/
import Derived.Test.YtfblgkcipnkhaaaGreatDoorJd
import Derived.Test.YtfblgkcipnkhaaaGreatDoorTailQ
import Derived.Deep.QuietTactic
import Derived.BigQuiet
import Derived.IntWalk
import Derived.Outline
import Derived.RegionTactic
import Derived.Deep.CutBlock
namespace Go.Proofs.YtfblgkcipnkhaaaGreatDoor.pk
open Go Go.RowKit
set_option maxRecDepth 100000

theorem below_round {w wr w' : World} (h : Below w.heap.size w wr) (hb : Below wr.heap.size wr w') : Below w.heap.size w w' := h.trans (hb.mono h.size)
theorem ret_bool {a b : Bool} (h : a = b) : Ending.returned (.bool a) = Ending.returned (.bool b) := by rw [h]
/-- A step of a region that draws its order, out of the operation's own law. -/
theorem step_op' {P : Program} {ops : Array Oper} {o : Oper} {a : Act} {w : World} {K : Act → World → Prop} {Q : Exit → Act → World → Prop} {E : Prop} (hgd : o.guard = none) (h : Oper.wp P o a w K Q) : if Region.wanted o (yielded ops a.tmps) = true then Oper.wp P o a w K Q else E := by
  rw [if_pos (by simp [Region.wanted, hgd])]
  exact h
/-- Bytes onto a row of one's own, as one operation. -/
theorem wp_joinB {w : World} {B : Nat} {v : Value} {xs : List UInt8} {o : Oper} {a : Act} {K : Act → World → Prop} {Q : Exit → Act → World → Prop} (hown : w.ownsRow B 5 1 v xs.length (Lib.byteCells xs)) (s x : Operand)
    (ho : o.op = .call { callee := .builtin .append, args := #[s, x], argTypes := #[22, 22] }) (hs : a.eval s = v) (A : Option Addr) (n c : Nat) (hx : a.eval x = .slice A n c) (ys : List UInt8)
    (hy : Bys w (.slice A n c) ys) (hl : xs.length + n < 100000000000) (hB : B ≤ w.heap.size)
    (hK : ∀ v' w', w'.ownsRow B 5 1 v' (xs ++ ys).length (Lib.byteCells (xs ++ ys)) → w.grownBy w' v.ownBlock → K (a.put o.dst v') w') : o.wp Tryz.prog a w K Q := by
  obtain ⟨i0, hi, hz0, hz1, hz2⟩ := info_three info_byte
  have hn := hy.len_
  refine wp_append_sl s x 22 ho B 5 i0 _ Tryz.underlying22 hi hz0 hz1 hz2 rfl v xs.length _ hs hown w.heap.size A n c ys hx hy.sl_ (by omega) hB ?_
  intro v' w' h1 h2
  refine hK v' w' ?_ h2
  rw [List.length_append, show Lib.byteCells (xs ++ ys) = Lib.byteCells xs ++ Lib.byteCells ys from by simp [Lib.byteCells]]
  exact h1

set_option maxHeartbeats 4000000 in
theorem giveEntry_any (e : En) (A : Option Addr) (n c : Nat) (w : World) (h : Bys w (.slice A n c) e.data) (hs : n ≤ 1000000000) :
    Calls Tryz.prog 73 #[.agg #[.int .i64 e.index, .int .i64 e.term, .int .i64 e.kind, .slice A n c]] w fun y w' => ∃ A1 c1, y = .returned (.agg #[.int .i64 e.index, .int .i64 e.term, .int .i64 e.kind, .slice A1 n c1]) ∧ SlT w' (fun q => w.heap.size ≤ q ∧ q < w'.heap.size) (.slice A1 n c1) e.data ∧ Below w.heap.size w w' := by
  have hn := h.len_
  obtain ⟨W1, g, g2, hW1, hg, hg2, hb1, hq, hq2, hsz⟩ := two_box w (.cells #[.int .i64 e.index, .int .i64 e.term, .int .i64 e.kind, .slice A n c] 71) (.cells #[.int .i64 0, .int .i64 0, .int .i64 0, .slice none 0 0] 57)
  have HW := Lib.hid (And.intro hW1 (And.intro hg hg2))
  have HE := Lib.hid (And.intro hb1 (And.intro hq (And.intro hq2 (And.intro (show w.heap.size ≤ g2 by omega) hsz))))
  have HN := Lib.hid (And.intro h (And.intro hn hs))
  have hres : Tryz.f73.results = #[.cell 2 57] := by kernel_rfl
  clear h hn hs hW1 hb1 hq hq2 hg hg2 hsz
  go_enter Tryz.func73, Tryz.ntmps73
  go_upto_region 1 with fail
  rw [← HW.out.1, ← HW.out.2.1, ← HW.out.2.2]
  go_upto_region 2 with fail
  have hd0 : Below g2 W1 W1.drew := (Below.refl _ _).drew
  have hlt : g < g2 := by have := HW.out.2.2; omega
  have HLT := Lib.hid hlt
  refine wp_region_held_drew (S := fun W => Below g2 W1 W) (by kernel_rfl) hd0 (fun hHeld => ?_)
  clear hd0
  refine wpAnyH_take (i := 0) (oi := { dst := Option.some 4, op := Op.fieldAddr 71 (Operand.tmp 1) 0, type := 0, pos := "law.go:30", after := #[], guard := Option.none }) (v := .pointer (some ⟨g, 0, none⟩)) rfl (by kernel_rfl) (by kernel_rfl) (by kernel_rfl) (fun _ _ _ h => h) (Or.inl ⟨by rfl, ?_⟩) hHeld ?_
  · intro W hSw
    obtain ⟨z0, z1, z2, z3⟩ := cells4 ((hSw.block g HLT.out).trans HE.out.2.1)
    go_simp
  simp only [Act.put, List.setIfInBounds_toArray, List.set_cons_zero, List.set_cons_succ]
  refine wpAnyH_take (i := 1) (oi := { dst := Option.some 5, op := Op.load 3 (Operand.tmp 4), type := 3, pos := "law.go:30", after := #[{ on := 0, ground := Ground.data }], guard := Option.none }) (v := .int .i64 e.index) rfl (by kernel_rfl) (by kernel_rfl) (by kernel_rfl) (fun _ _ _ h => h) (Or.inl ⟨by rfl, ?_⟩) hHeld ?_
  · intro W hSw
    obtain ⟨z0, z1, z2, z3⟩ := cells4 ((hSw.block g HLT.out).trans HE.out.2.1)
    go_simp
  simp only [Act.put, List.setIfInBounds_toArray, List.set_cons_zero, List.set_cons_succ]
  refine wpAnyH_take (i := 2) (oi := { dst := Option.some 6, op := Op.fieldAddr 71 (Operand.tmp 1) 1, type := 0, pos := "law.go:30", after := #[], guard := Option.none }) (v := .pointer (some ⟨g, 1, none⟩)) rfl (by kernel_rfl) (by kernel_rfl) (by kernel_rfl) (fun _ _ _ h => h) (Or.inl ⟨by rfl, ?_⟩) hHeld ?_
  · intro W hSw
    obtain ⟨z0, z1, z2, z3⟩ := cells4 ((hSw.block g HLT.out).trans HE.out.2.1)
    go_simp
  simp only [Act.put, List.setIfInBounds_toArray, List.set_cons_zero, List.set_cons_succ]
  refine wpAnyH_take (i := 3) (oi := { dst := Option.some 7, op := Op.load 3 (Operand.tmp 6), type := 3, pos := "law.go:30", after := #[{ on := 2, ground := Ground.data }], guard := Option.none }) (v := .int .i64 e.term) rfl (by kernel_rfl) (by kernel_rfl) (by kernel_rfl) (fun _ _ _ h => h) (Or.inl ⟨by rfl, ?_⟩) hHeld ?_
  · intro W hSw
    obtain ⟨z0, z1, z2, z3⟩ := cells4 ((hSw.block g HLT.out).trans HE.out.2.1)
    go_simp
  simp only [Act.put, List.setIfInBounds_toArray, List.set_cons_zero, List.set_cons_succ]
  refine wpAnyH_take (i := 4) (oi := { dst := Option.some 8, op := Op.fieldAddr 71 (Operand.tmp 1) 2, type := 0, pos := "law.go:30", after := #[], guard := Option.none }) (v := .pointer (some ⟨g, 2, none⟩)) rfl (by kernel_rfl) (by kernel_rfl) (by kernel_rfl) (fun _ _ _ h => h) (Or.inl ⟨by rfl, ?_⟩) hHeld ?_
  · intro W hSw
    obtain ⟨z0, z1, z2, z3⟩ := cells4 ((hSw.block g HLT.out).trans HE.out.2.1)
    go_simp
  simp only [Act.put, List.setIfInBounds_toArray, List.set_cons_zero, List.set_cons_succ]
  refine wpAnyH_take (i := 5) (oi := { dst := Option.some 9, op := Op.load 3 (Operand.tmp 8), type := 3, pos := "law.go:30", after := #[{ on := 4, ground := Ground.data }], guard := Option.none }) (v := .int .i64 e.kind) rfl (by kernel_rfl) (by kernel_rfl) (by kernel_rfl) (fun _ _ _ h => h) (Or.inl ⟨by rfl, ?_⟩) hHeld ?_
  · intro W hSw
    obtain ⟨z0, z1, z2, z3⟩ := cells4 ((hSw.block g HLT.out).trans HE.out.2.1)
    go_simp
  simp only [Act.put, List.setIfInBounds_toArray, List.set_cons_zero, List.set_cons_succ]
  refine wpAnyH_take (i := 6) (oi := { dst := Option.some 10, op := Op.move (Operand.tmp 3), type := 22, pos := "law.go:30", after := #[], guard := Option.none }) (v := .slice none 0 0) rfl (by kernel_rfl) (by kernel_rfl) (by kernel_rfl) (fun _ _ _ h => h) (Or.inl ⟨by rfl, ?_⟩) hHeld ?_
  · intro W hSw
    obtain ⟨z0, z1, z2, z3⟩ := cells4 ((hSw.block g HLT.out).trans HE.out.2.1)
    go_simp
  simp only [Act.put, List.setIfInBounds_toArray, List.set_cons_zero, List.set_cons_succ]
  refine wpAnyH_take (i := 7) (oi := { dst := Option.some 11, op := Op.fieldAddr 71 (Operand.tmp 1) 3, type := 0, pos := "law.go:30", after := #[], guard := Option.none }) (v := .pointer (some ⟨g, 3, none⟩)) rfl (by kernel_rfl) (by kernel_rfl) (by kernel_rfl) (fun _ _ _ h => h) (Or.inl ⟨by rfl, ?_⟩) hHeld ?_
  · intro W hSw
    obtain ⟨z0, z1, z2, z3⟩ := cells4 ((hSw.block g HLT.out).trans HE.out.2.1)
    go_simp
  simp only [Act.put, List.setIfInBounds_toArray, List.set_cons_zero, List.set_cons_succ]
  refine wpAnyH_take (i := 8) (oi := { dst := Option.some 12, op := Op.load 22 (Operand.tmp 11), type := 22, pos := "law.go:30", after := #[{ on := 7, ground := Ground.data }], guard := Option.none }) (v := .slice A n c) rfl (by kernel_rfl) (by kernel_rfl) (by kernel_rfl) (fun _ _ _ h => h) (Or.inl ⟨by rfl, ?_⟩) hHeld ?_
  · intro W hSw
    obtain ⟨z0, z1, z2, z3⟩ := cells4 ((hSw.block g HLT.out).trans HE.out.2.1)
    go_simp
  simp only [Act.put, List.setIfInBounds_toArray, List.set_cons_zero, List.set_cons_succ]
  have N0 := World.ownsRow_nil W1.drew W1.heap.size 5 1
  refine wpAnyH_ready (rs := [9]) (by kernel_rfl) (by simp) ?_
  refine AllReadyH.cons (o := { dst := Option.some 13, op := Op.call { callee := Callee.builtin Builtin.append, args := #[Operand.tmp 10, Operand.tmp 12], argTypes := #[22, 22] }, type := 22, pos := "law.go:30", after := #[{ on := 6, ground := Ground.data }, { on := 8, ground := Ground.data }], guard := Option.none }) rfl (fun K hK => ?_) AllReadyH.nil
  refine step_op' rfl (wp_joinB (xs := []) N0 (.tmp 10) (.tmp 12) rfl rfl A n c rfl e.data (HN.out.1.below HE.out.1.drew) (by have := HN.out.2.2; simp; omega) (Nat.le_refl _) ?_)
  intro v1 w1 ho1 hg1
  rw [List.nil_append] at ho1
  have hb1 : Below W1.heap.size W1 w1 := Below.grown (Below.refl _ _).drew hg1 (Nat.le_refl _) (fun q hq => by cases hq)
  have hI1 : SlT w1 (fun q => W1.heap.size ≤ q ∧ q < w1.heap.size) v1 e.data := SlT.of_own ho1 _ fun q hq => ho1.lt q hq
  obtain ⟨Ax, cx, hv, -, -⟩ := (Bys.of_own ho1).form
  rw [← HN.out.2.1] at hv
  subst hv
  refine hK.out _ _ (hb1.mono (by have := HE.out.2.2.2.2; omega)) (fun hHeld2 => ?_)
  clear hK K hHeld
  have hHeld := hHeld2
  clear hHeld2
  simp only [Act.put, List.setIfInBounds_toArray, List.set_cons_zero, List.set_cons_succ]
  refine wpAnyH_take (i := 10) (oi := { dst := Option.some 14, op := Op.build 57 #[(0, Operand.tmp 5), (1, Operand.tmp 7), (2, Operand.tmp 9), (3, Operand.tmp 13)], type := 57, pos := "law.go:30", after := #[{ on := 1, ground := Ground.data }, { on := 3, ground := Ground.data }, { on := 5, ground := Ground.data }, { on := 9, ground := Ground.data }], guard := Option.none }) (v := .agg #[.int .i64 e.index, .int .i64 e.term, .int .i64 e.kind, .slice Ax n cx]) rfl (by kernel_rfl) (by kernel_rfl) (by kernel_rfl) (fun _ _ _ h => h) (Or.inl ⟨by rfl, ?_⟩) hHeld ?_
  · intro W hSw
    go_simp
  simp only [Act.put, List.setIfInBounds_toArray, List.set_cons_zero, List.set_cons_succ]
  have hS := (hb1.block g2 (obj_lt HE.out.2.2.1)).trans HE.out.2.2.1
  obtain ⟨y0, y1, y2, y3⟩ := cells4 hS
  have f0 := frozen_own hS 0
  have f1 := frozen_own hS 1
  have f2 := frozen_own hS 2
  have f3 := frozen_own hS 3
  have HS := Lib.hid (And.intro hS (And.intro hb1 hI1))
  clear hS hb1 hI1 ho1 hg1 N0
  refine wpAnyH_ready (rs := [11]) (by kernel_rfl) (by simp) ?_
  refine AllReadyH.cons (o := { dst := Option.none, op := Op.store 57 (Operand.tmp 2) (Operand.tmp 14), type := 0, pos := "law.go:30", after := #[{ on := 10, ground := Ground.data }, { on := 9, ground := Ground.chain }, { on := 0, ground := Ground.phase }, { on := 1, ground := Ground.phase }, { on := 2, ground := Ground.phase }, { on := 3, ground := Ground.phase }, { on := 4, ground := Ground.phase }, { on := 5, ground := Ground.phase }, { on := 6, ground := Ground.phase }, { on := 7, ground := Ground.phase }, { on := 8, ground := Ground.phase }, { on := 9, ground := Ground.phase }, { on := 10, ground := Ground.phase }], guard := Option.none }) rfl (fun K hK => ?_) AllReadyH.nil
  go_simp
  obtain ⟨WF, hWF⟩ : ∃ W, W = put4 w1 g2 (.int .i64 e.index) (.int .i64 e.term) (.int .i64 e.kind) (.slice Ax n cx) := ⟨_, rfl⟩
  have hbF := put4_below (b := g2) (v0 := .int .i64 e.index) (v1 := .int .i64 e.term) (v2 := .int .i64 e.kind) (v3 := .slice Ax n cx) (HS.out.2.1.mono (show g2 ≤ _ by have := HE.out.2.2.2.2; omega)) (Nat.le_refl g2)
  obtain ⟨z0, z1, z2, z3⟩ := cells4 (put4_own HS.out.1 (.int .i64 e.index) (.int .i64 e.term) (.int .i64 e.kind) (.slice Ax n cx))
  have hoth : ∀ k, k ≠ g2 → (put4 w1 g2 (.int .i64 e.index) (.int .i64 e.term) (.int .i64 e.kind) (.slice Ax n cx)).heap[k]? = w1.heap[k]? := fun k hk => by
    unfold put4; rw [Below.heap_setCell _ _ _ _ hk, Below.heap_setCell _ _ _ _ hk, Below.heap_setCell _ _ _ _ hk, Below.heap_setCell _ _ _ _ hk]
  have hsz2 : (put4 w1 g2 (.int .i64 e.index) (.int .i64 e.term) (.int .i64 e.kind) (.slice Ax n cx)).heap.size = w1.heap.size := by
    unfold put4; simp only [World.size_setCell]
  rw [← hWF] at hbF z0 z1 z2 z3 hoth hsz2
  unfold put4 at hWF
  rw [← hWF]
  refine hK.out _ _ hbF (fun hHeld2 => ?_)
  clear hK K hHeld hHeld2 hWF y0 y1 y2 y3 f0 f1 f2 f3
  have HF := Lib.hid (And.intro hbF (And.intro hoth hsz2))
  clear hbF hoth hsz2
  refine wpAnyH_done (by kernel_rfl) ?_ _
  go_wp2_with fail
  have hbw : Below w.heap.size w WF := HE.out.1.trans (HF.out.1.mono HE.out.2.2.2.1)
  refine bodyPost_ret (v := .agg #[.int .i64 e.index, .int .i64 e.term, .int .i64 e.kind, .slice Ax n cx]) ?_ rfl ⟨Ax, cx, rfl, ?_, hbw⟩
  · simp only [results, hres]
    go_simp
  · refine (SlT.kept HS.out.2.2 fun k hk _ => HF.out.2.1 k ?_).mono fun k hk => ⟨Nat.le_trans HE.out.1.size hk.1, by rw [HF.out.2.2]; exact hk.2⟩
    have := hk.1; have := HE.out.2.2.2.2; omega

set_option maxHeartbeats 8000000 in
theorem giveEntries_any (A : Option Addr) (n c : Nat) (l : List En) (w : World) (h : Ents w (.slice A n c) l) (hs : SmallE 1000000 100000000 l) :
    Calls Tryz.prog 40 #[.slice A n c] w fun y w' => ∃ A1 c1, y = .returned (.slice A1 n c1) ∧ EntsT w' (fun k => w.heap.size ≤ k ∧ k < w'.heap.size) (.slice A1 n c1) l ∧ Below w.heap.size w w' := by
  obtain ⟨hn, hnc, hcm⟩ := h.len_
  have in1 : (n : Int) ≤ 9223372036854775807 := by omega
  have HH := Lib.hid (And.intro h (And.intro hn hs))
  clear h hnc hcm hs hn
  go_enter Tryz.func40, Tryz.ntmps40
  go_wp2_with fail
  go_loopw [3, 4] (fun v ii wr => ∃ (j : Nat), j ≤ n ∧ ii = .int .i64 (j : Int) ∧ OwnE wr w.heap.size (fun k => w.heap.size ≤ k) 57 v (l.take j) ∧ Below w.heap.size w wr) (fun _ ii _ => n - (intOf ii).toNat)
  case atStart => exact ⟨0, Nat.zero_le _, rfl, OwnE.nil_ _ _ _ _, Below.refl _ _⟩
  case round =>
    obtain ⟨j, hj, rfl, how, hbw⟩ := hrel
    have hjl : (l.take j).length = j := by rw [List.length_take]; have := HH.out.2.1; omega
    obtain ⟨Av, cv, rfl, -, -⟩ := how.form hjl
    have HO := Lib.hid (And.intro how (And.intro hbw hjl))
    clear how hjl
    by_cases hlt : j < n
    · have ii : (j : Int) < (n : Int) := by omega
      have hkl : j < l.length := by have := HH.out.2.1; omega
      obtain ⟨bk, off, Ad, cd, rfl, hbb, hok, q0, q1, q2, q3, hdat⟩ := HH.out.1.at_ j hkl
      have hxe : l.take (j + 1) = l.take j ++ [l[j]] := List.take_succ_eq_append_getElem hkl
      have hsm := HH.out.2.2.2 _ (List.getElem_mem hkl)
      obtain ⟨e, he⟩ : ∃ e, e = l[j] := ⟨_, rfl⟩
      rw [← he] at q0 q1 q2 q3 hdat hxe hsm
      obtain ⟨m, hm⟩ : ∃ m, m = e.data.length := ⟨_, rfl⟩
      rw [← hm] at q3 hdat hsm
      have y0 := (hbw.cell (p := ⟨bk, off + j * 4, none⟩) hbb).trans q0
      have y1 := (hbw.cell (p := ⟨bk, off + j * 4 + 1, none⟩) hbb).trans q1
      have y2 := (hbw.cell (p := ⟨bk, off + j * 4 + 2, none⟩) hbb).trans q2
      have y3 := (hbw.cell (p := ⟨bk, off + j * 4 + 3, none⟩) hbb).trans q3
      have HG := Lib.hid (giveEntry_any e Ad m cd wr (hdat.below hbw) (by omega))
      have HX := Lib.hid (And.intro hxe (And.intro hm hsm))
      clear q0 q1 q2 q3 hdat hxe hsm he hm hbb hok hkl hbw
      go_wp2_with (first
        | (go_at_call 73; go_must (refine HG.out.mono ?_; rintro y w1 ⟨A1, c1, rfl, hd1, hb1⟩; have HB1 := Lib.hid (And.intro hd1 hb1); clear hd1 hb1))
        | (at_builtin; go_must (refine wpList_pushE (B := w.heap.size) (Q := fun k => w.heap.size ≤ k) (t := 57) (l := l.take j) ((HO.out.1.more HB1.out.2).more (below_alloc w1 _)) rfl _ _ 28 Tryz.underlying28 info_ent rfl rfl w1.heap.size e A1 c1 rfl ?c0 ?c1 ?c2 ?c3 ?c4)))
      case c0 => rw [← HX.out.2.1]; exact heap_alloc_new w1 _
      case c1 =>
        rw [← HX.out.2.1]
        refine (SlT.kept HB1.out.1 fun k hk _ => heap_alloc_old _ _ hk.2).mono fun k hk => ⟨Nat.le_trans HO.out.2.1.size hk.1, by rw [World.size_alloc]; have := hk.2; omega, fun e => ?_⟩
        have h1 := (HO.out.1.lt k e).2
        have h2 := hk.1
        omega
      case c2 => have h1 := HO.out.2.2; have h2 := HH.out.2.2.1; have h3 := HH.out.2.1; omega
      case c3 => have h1 := HO.out.2.1.size; have h2 := HB1.out.2.size; simp only [World.size_alloc]; omega
      case c4 =>
        intro v' w' ho' hg' _
        have hb2 : Below w.heap.size w w1 := HO.out.2.1.trans (HB1.out.2.mono HO.out.2.1.size)
        have hb3 : Below w.heap.size w w' := (hb2.alloc hb2.size _).grown hg' (by have h1 := hb2.size; simp only [World.size_alloc]; omega) fun k hk => (HO.out.1.lt k hk).1
        rw [← HX.out.1] at ho'
        have HF := Lib.hid (And.intro ho' hb3)
        clear ho' hg' hb3 hb2
        go_wp2_with fail
        go_roundw
        case rel => exact ⟨j + 1, by omega, by go_num, HF.out.1, HF.out.2⟩
        case measure => simp [intOf]; omega
    · obtain rfl : j = n := by omega
      have ii : ¬ (j : Int) < (j : Int) := by omega
      go_wp2_with fail
      go_ret
      refine ⟨Av, cv, rfl, ?_, HO.out.2.1⟩
      have h1 := HO.out.1.entsT (fun k => w.heap.size ≤ k ∧ k < wr.heap.size) (fun _ h1 h2 => ⟨h1, h2⟩) (fun _ h1 h2 => ⟨h1, h2⟩)
      rw [List.take_of_length_le (by have := HH.out.2.1; omega)] at h1
      exact h1

/-- How long entries are, by 64 bytes. -/
def sumE : List En → Nat
  | [] => 0
  | e :: r => e.data.length / 64 + sumE r
theorem sumE_append (a b : List En) : sumE (a ++ b) = sumE a + sumE b := by
  induction a with
  | nil => simp [sumE]
  | cons e r ih => simp only [List.cons_append, sumE, ih]; omega
theorem sumE_le {d : Nat} : ∀ {l : List En}, (∀ e ∈ l, e.data.length ≤ d * 64) → sumE l ≤ l.length * d
  | [], _ => by simp [sumE]
  | e :: r, h => by
    have h1 := sumE_le (l := r) fun x hx => h x (List.mem_cons_of_mem _ hx)
    have h2 := h e (List.mem_cons_self ..)
    simp only [sumE, List.length_cons, Nat.add_mul, Nat.one_mul]
    have : e.data.length / 64 ≤ d := by omega
    omega
theorem sumE_mem : ∀ {l : List En} {e : En}, e ∈ l → e.data.length / 64 ≤ sumE l
  | x :: r, e, h => by
    rcases List.mem_cons.1 h with rfl | h
    · simp only [sumE]; omega
    · have := sumE_mem h; simp only [sumE]; omega
def longE (l : List En) : Bool := decide (200 < l.length ∨ 400 < sumE (l.take 300))
theorem longE_small {l : List En} (h : longE l = false) : SmallE 200 25663 l := by
  have h1 := of_decide_eq_false h
  refine ⟨by omega, fun e he => ?_⟩
  rw [List.take_of_length_le (by omega)] at h1
  have := sumE_mem he
  omega

set_option maxHeartbeats 8000000 in
theorem long_any (A : Option Addr) (n c : Nat) (l : List En) (w : World) (h : Ents w (.slice A n c) l) (hs : ∀ e ∈ l, e.data.length ≤ 140737488355328) (b : Bool) (hb : b = longE l) :
    Calls Tryz.prog 23 #[.slice A n c] w fun y w' => y = .returned (.bool b) ∧ w = w' := by
  obtain ⟨hn, hnc, hcm⟩ := h.len_
  have in1 : (n : Int) ≤ 9223372036854775807 := by omega
  have HH := Lib.hid (And.intro h (And.intro hn (And.intro hs hb)))
  clear h hnc hcm hs hn hb
  go_enter Tryz.func23, Tryz.ntmps23
  go_wp2_with fail
  go_loop [3, 4] (fun nn ii => ∃ (j s : Nat), j ≤ n ∧ j ≤ 300 ∧ ii = .int .i64 (j : Int) ∧ nn = .int .i64 (s : Int) ∧ Hid (s = sumE (l.take j))) (fun _ ii => 300 - (intOf ii).toNat)
  case atStart => exact ⟨0, 0, Nat.zero_le _, by omega, rfl, rfl, Lib.hid rfl⟩
  case round =>
    obtain ⟨j, s, hj, hj3, rfl, rfl, HS⟩ := hrel
    have hbd : s ≤ 300 * 2199023255552 := by
      rw [HS.out]
      refine Nat.le_trans (sumE_le (d := 2199023255552) fun e he => ?_) ?_
      · have := HH.out.2.2.1 e (List.mem_of_mem_take he); omega
      · rw [List.length_take]; omega
    have in2 : (s : Int) ≤ 300 * 2199023255552 := by omega
    clear hbd
    by_cases hlt : j < n ∧ j < 300
    · obtain ⟨h1, h2⟩ := hlt
      have i1 : (j : Int) < (n : Int) := by omega
      have i2 : (j : Int) < 300 := by omega
      have hkl : j < l.length := by have := HH.out.2.1; omega
      obtain ⟨bk, off, Ad, cd, rfl, hbb, hok, q0, q1, q2, q3, hdat⟩ := HH.out.1.at_ j hkl
      have hxe : sumE (l.take (j + 1)) = s + l[j].data.length / 64 := by rw [List.take_succ_eq_append_getElem hkl, sumE_append, HS.out]; simp [sumE]
      have hsm := HH.out.2.2.1 _ (List.getElem_mem hkl)
      obtain ⟨m, hm⟩ : ∃ m, m = l[j].data.length := ⟨_, rfl⟩
      rw [← hm] at q3 hxe hsm
      have HX := Lib.hid hxe
      have in3 : (m : Int) ≤ 140737488355328 := by omega
      clear hxe hsm hm hkl hdat q0 q1 q2 hok hbb
      go_wp2_with fail
      go_round
      case rel => exact ⟨j + 1, s + m / 64, by omega, by omega, by go_num, by go_num, Lib.hid HX.out.symm⟩
      case measure => simp [intOf]; omega
    · have hend : (¬ (j : Int) < (n : Int)) ∨ ((j : Int) < (n : Int) ∧ ¬ (j : Int) < 300) := by omega
      have htk : l.take 300 = l.take j := by
        by_cases h1 : j < n
        · obtain rfl : j = 300 := by omega
          rfl
        · rw [List.take_of_length_le (by have := HH.out.2.1; omega), List.take_of_length_le (by have := HH.out.2.1; omega)]
      have HB := Lib.hid (show b = decide (200 < n ∨ 400 < s) by rw [HH.out.2.2.2]; unfold longE; rw [htk, ← HS.out, ← HH.out.2.1])
      clear hlt htk
      rcases hend with h1 | ⟨h1, h2⟩
      all_goals
        by_cases c1 : 200 < n
        · have c1' : 200 < (n : Int) := by omega
          go_wp2_with fail
          go_ret
          exact ⟨ret_bool (by rw [HB.out, decide_eq_true (by omega)]), rfl⟩
        · have c1' : ¬ 200 < (n : Int) := by omega
          by_cases c2 : 400 < s
          · have c2' : 400 < (s : Int) := by omega
            go_wp2_with fail
            go_ret
            exact ⟨ret_bool (by rw [HB.out, decide_eq_true (by omega)]), rfl⟩
          · have c2' : ¬ 400 < (s : Int) := by omega
            go_wp2_with fail
            go_ret
            exact ⟨ret_bool (by rw [HB.out, decide_eq_false (by omega)]), rfl⟩


end Go.Proofs.YtfblgkcipnkhaaaGreatDoor.pk
