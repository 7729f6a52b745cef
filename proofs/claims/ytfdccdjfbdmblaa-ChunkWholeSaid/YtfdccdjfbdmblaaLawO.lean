/-
  The law ChunkOne: walked.
-/
import Derived.Test.YtfdccdjfbdmblaaRefP
import Derived.Test.YtfdccdjfbdmblaaTailQ
namespace Go.Proofs.Ytfdccdjfbdmblaa.pk
open Go Go.RowKit
set_option maxRecDepth 100000

theorem cells4 {w : World} {b t : Nat} {v0 v1 v2 v3 : Value} (h : w.heap[b]? = some (.cells #[v0, v1, v2, v3] t (0, 0))) : w.cell? ⟨b, 0, none⟩ = some v0 ∧ w.cell? ⟨b, 1, none⟩ = some v1 ∧ w.cell? ⟨b, 2, none⟩ = some v2 ∧ w.cell? ⟨b, 3, none⟩ = some v3 ∧ ∀ j, w.frozen? ⟨b, j, none⟩ = false := by
  refine ⟨?_, ?_, ?_, ?_, fun j => frozen_of_row w b j _ _ h⟩
  all_goals
    rw [cell_of_row w b _ _ _ (0, 0) h]
    rfl
theorem two_boxes (w : World) (a b : Obj) : ∃ W2 g0 g1, W2 = (w.alloc a).alloc b ∧ g0 = w.heap.size ∧ g1 = g0 + 1 ∧ Below w.heap.size w W2 ∧ W2.heap[g0]? = some a ∧ W2.heap[g1]? = some b := by
  refine ⟨_, _, _, rfl, rfl, rfl, (below_alloc _ _).trans ((below_alloc _ _).mono (by rw [World.size_alloc]; omega)), (heap_alloc_old _ _ (by rw [World.size_alloc]; omega)).trans (heap_alloc_new w _), ?_⟩
  have := heap_alloc_new (w.alloc a) b
  rw [World.size_alloc] at this
  exact this
/-- A step of a region that draws its order, out of the operation's own law. -/
theorem step_op' {P : Program} {ops : Array Oper} {o : Oper} {a : Act} {w : World} {K : Act → World → Prop} {Q : Exit → Act → World → Prop} {E : Prop} (hgd : o.guard = none) (h : Oper.wp P o a w K Q) : if Region.wanted o (yielded ops a.tmps) = true then Oper.wp P o a w K Q else E := by
  rw [if_pos (by simp [Region.wanted, hgd])]
  exact h
/-- Bytes onto a row of one's own, as one operation. -/
theorem wp_joinB {w : World} {B : Nat} {v : Value} {xs : List UInt8} {o : Oper} {a : Act} {K : Act → World → Prop} {Q : Exit → Act → World → Prop} (hown : w.ownsRow B 5 1 v xs.length (Lib.byteCells xs)) (s x : Operand)
    (ho : o.op = .call { callee := .builtin .append, args := #[s, x], argTypes := #[23, 23] }) (hs : a.eval s = v) (A : Option Addr) (n c : Nat) (hx : a.eval x = .slice A n c) (ys : List UInt8)
    (hy : Bys w (.slice A n c) ys) (hl : xs.length + n < 100000000000) (hB : B ≤ w.heap.size)
    (hK : ∀ v' w', w'.ownsRow B 5 1 v' (xs ++ ys).length (Lib.byteCells (xs ++ ys)) → w.grownBy w' v.ownBlock → K (a.put o.dst v') w') : o.wp Try.prog a w K Q := by
  obtain ⟨i0, hi, hz0, hz1, hz2⟩ := info_three info_byte
  have hn := hy.len_
  refine wp_append_sl s x 23 ho B 5 i0 _ Try.underlying23 hi hz0 hz1 hz2 rfl v xs.length _ hs hown w.heap.size A n c ys hx hy.sl_ (by omega) hB ?_
  intro v' w' h1 h2
  refine hK v' w' ?_ h2
  rw [List.length_append, show Lib.byteCells (xs ++ ys) = Lib.byteCells xs ++ Lib.byteCells ys from by simp [Lib.byteCells]]
  exact h1

set_option maxHeartbeats 16000000 in
theorem one_true (C : ConK) (key0 : Int) (A : Option Addr) (m c : Nat) (h : List UInt8) (key off : Int) (A' : Option Addr) (m' c' : Nat) (p : List UInt8) (last : Bool) (w : World) (hh : Bys w (.slice A m c) h) (hp : Bys w (.slice A' m' c') p) (hk0 : inI key0) (hk : inI key) (hof : inI off) :
    Calls Try.prog 6 #[.agg #[.int .i64 key0, .slice A m c], .agg #[.int .i64 key, .int .i64 off, .slice A' m' c', .bool last]] w fun y w' => y = .returned (.bool true) ∧ Below w.heap.size w w' := by
  have HH := Lib.hid (And.intro hh (And.intro hp (And.intro hh.len_ hp.len_)))
  have HI := Lib.hid (And.intro hk0 (And.intro hk hof))
  obtain ⟨W2, g0, g1, hW2, hg0, hg1, hb2, e0, e1⟩ := two_boxes w (.cells #[.int .i64 key0, .slice A m c] 26) (.cells #[.int .i64 key, .int .i64 off, .slice A' m' c', .bool last] 28)
  obtain ⟨x0, x1, -⟩ := cells2 e0
  obtain ⟨y0, y1, y2, y3, -⟩ := cells4 e1
  have HW := Lib.hid (And.intro hW2 (And.intro hg0 hg1))
  have HE := Lib.hid (And.intro hb2 (And.intro e0 e1))
  clear hh hp hk0 hk hof hW2 hg0 hg1 hb2 e0 e1
  by_cases hbig : 10000 < m ∨ 10000 < m'
  · have hg : (10000 < (m : Int)) ∨ (¬ 10000 < (m : Int) ∧ 10000 < (m' : Int)) := by omega
    clear hbig
    rcases hg with hg | ⟨hg1, hg2⟩
    all_goals
      go_enter Try.func6, Try.ntmps6
      go_upto_region 1 with fail
      rw [← HW.out.1, ← HW.out.2.1, ← HW.out.2.2]
      go_wp2_with (go_at_call 9; go_must (refine (sureK C _).mono ?_; rintro y w1 ⟨rfl, hb1⟩; have HB := Lib.hid (HE.out.1.trans (hb1.mono HE.out.1.size)); clear hb1))
      go_ret
      exact ⟨rfl, HB.out⟩
  · have i1 : ¬ 10000 < (m : Int) := by omega
    have i2 : ¬ 10000 < (m' : Int) := by omega
    have HN := Lib.hid (show m ≤ 10000 ∧ m' ≤ 10000 by omega)
    clear hbig
    go_enter Try.func6, Try.ntmps6
    go_upto_region 1 with fail
    rw [← HW.out.1, ← HW.out.2.1, ← HW.out.2.2]
    go_upto_region 4 with fail
    have hd0 : Below W2.heap.size W2 W2.drew := (Below.refl _ _).drew
    have HD := Lib.hid hd0
    refine wp_region_held_drew (S := fun W => Below W2.heap.size W2 W) (by kernel_rfl) hd0 (fun hHeld => ?_)
    clear hd0
    refine wpAnyH_take (i := 0) (oi := { dst := Option.some 26, op := Op.fieldAddr 26 (Operand.tmp 2) 0, type := 0, pos := "law.go:131", after := #[], guard := Option.none }) (v := .pointer (some ⟨g0, 0, none⟩)) rfl (by kernel_rfl) (by kernel_rfl) (by kernel_rfl) (fun _ _ _ h => h) (Or.inl ⟨by rfl, ?_⟩) hHeld ?_
    · intro W hSw
      obtain ⟨z0, z1, -⟩ := cells2 ((hSw.block g0 (obj_lt HE.out.2.1)).trans HE.out.2.1)
      go_simp
    simp only [Act.put, List.setIfInBounds_toArray, List.set_cons_zero, List.set_cons_succ]
    refine wpAnyH_take (i := 1) (oi := { dst := Option.some 27, op := Op.load 3 (Operand.tmp 26), type := 3, pos := "law.go:131", after := #[{ on := 0, ground := Ground.data }], guard := Option.none }) (v := .int .i64 key0) rfl (by kernel_rfl) (by kernel_rfl) (by kernel_rfl) (fun _ _ _ h => h) (Or.inl ⟨by rfl, ?_⟩) hHeld ?_
    · intro W hSw
      obtain ⟨z0, z1, -⟩ := cells2 ((hSw.block g0 (obj_lt HE.out.2.1)).trans HE.out.2.1)
      go_simp
    simp only [Act.put, List.setIfInBounds_toArray, List.set_cons_zero, List.set_cons_succ]
    refine wpAnyH_take (i := 2) (oi := { dst := Option.some 28, op := Op.move (Operand.tmp 5), type := 23, pos := "law.go:131", after := #[], guard := Option.none }) (v := .slice none 0 0) rfl (by kernel_rfl) (by kernel_rfl) (by kernel_rfl) (fun _ _ _ h => h) (Or.inl ⟨by rfl, ?_⟩) hHeld ?_
    · intro W hSw
      obtain ⟨z0, z1, -⟩ := cells2 ((hSw.block g0 (obj_lt HE.out.2.1)).trans HE.out.2.1)
      go_simp
    simp only [Act.put, List.setIfInBounds_toArray, List.set_cons_zero, List.set_cons_succ]
    refine wpAnyH_take (i := 3) (oi := { dst := Option.some 29, op := Op.fieldAddr 26 (Operand.tmp 2) 1, type := 0, pos := "law.go:131", after := #[], guard := Option.none }) (v := .pointer (some ⟨g0, 1, none⟩)) rfl (by kernel_rfl) (by kernel_rfl) (by kernel_rfl) (fun _ _ _ h => h) (Or.inl ⟨by rfl, ?_⟩) hHeld ?_
    · intro W hSw
      obtain ⟨z0, z1, -⟩ := cells2 ((hSw.block g0 (obj_lt HE.out.2.1)).trans HE.out.2.1)
      go_simp
    simp only [Act.put, List.setIfInBounds_toArray, List.set_cons_zero, List.set_cons_succ]
    refine wpAnyH_take (i := 4) (oi := { dst := Option.some 30, op := Op.load 23 (Operand.tmp 29), type := 23, pos := "law.go:131", after := #[{ on := 3, ground := Ground.data }], guard := Option.none }) (v := .slice A m c) rfl (by kernel_rfl) (by kernel_rfl) (by kernel_rfl) (fun _ _ _ h => h) (Or.inl ⟨by rfl, ?_⟩) hHeld ?_
    · intro W hSw
      obtain ⟨z0, z1, -⟩ := cells2 ((hSw.block g0 (obj_lt HE.out.2.1)).trans HE.out.2.1)
      go_simp
    simp only [Act.put, List.setIfInBounds_toArray, List.set_cons_zero, List.set_cons_succ]
    have N0 := World.ownsRow_nil W2.drew W2.heap.size 5 1
    refine wpAnyH_ready (rs := [5, 7]) (by kernel_rfl) (by simp) ?_
    refine AllReadyH.cons (o := { dst := Option.some 31, op := Op.call { callee := Callee.builtin Builtin.append, args := #[Operand.tmp 28, Operand.tmp 30], argTypes := #[23, 23] }, type := 23, pos := "law.go:131", after := #[{ on := 2, ground := Ground.data }, { on := 4, ground := Ground.data }], guard := Option.none }) rfl (fun K hK => ?_) (AllReadyH.cons (o := { dst := Option.some 6, op := Op.alloc 25, type := 0, pos := "law.go:131", after := #[], guard := Option.none }) rfl (fun K hK => ?_) AllReadyH.nil)
    focus
      refine step_op' rfl (wp_joinB (xs := []) N0 (.tmp 28) (.tmp 30) rfl rfl A m c rfl h (HH.out.1.below (HE.out.1.trans (HD.out.mono HE.out.1.size))) (by have := HN.out; simp; omega) (Nat.le_refl _) ?_)
      intro v1 w1 ho1 hg1
      rw [List.nil_append] at ho1
      have hb1 : Below W2.heap.size W2 w1 := HD.out.grown hg1 (Nat.le_refl _) (fun q hq => by cases hq)
      have hI1 := Bys.of_own ho1
      obtain ⟨Ax, cx, hv, -, -⟩ := hI1.form
      rw [← HH.out.2.2.1] at hv
      subst hv
      refine hK.out _ _ hb1 (fun hHeld2 => ?_)
      clear hK K hHeld
      have hHeld := hHeld2
      clear hHeld2
      simp only [Act.put, List.setIfInBounds_toArray, List.set_cons_zero, List.set_cons_succ]
      refine wpAnyH_take (i := 6) (oi := { dst := Option.some 32, op := Op.build 25 #[(0, Operand.tmp 27), (1, Operand.tmp 31)], type := 25, pos := "law.go:131", after := #[{ on := 1, ground := Ground.data }, { on := 5, ground := Ground.data }], guard := Option.none }) (v := .agg #[.int .i64 key0, .slice Ax m cx]) rfl (by kernel_rfl) (by kernel_rfl) (by kernel_rfl) (fun _ _ _ h => h) (Or.inl ⟨by rfl, ?_⟩) hHeld ?_
      · intro W hSw
        go_simp
      simp only [Act.put, List.setIfInBounds_toArray, List.set_cons_zero, List.set_cons_succ]
      refine wpAnyH_ready (rs := [7]) (by kernel_rfl) (by simp) ?_
      refine AllReadyH.cons (o := { dst := Option.some 6, op := Op.alloc 25, type := 0, pos := "law.go:131", after := #[], guard := Option.none }) rfl (fun K hK => ?_) AllReadyH.nil
      go_simp
      have hb3 := hb1.alloc hb1.size (.cells #[.int .i64 0, .slice none 0 0] 25)
      refine hK.out _ _ hb3 (fun hHeld2 => ?_)
      clear hK K hHeld
      have hHeld := hHeld2
      clear hHeld2
      have hbx := heap_alloc_new w1 (.cells #[.int .i64 0, .slice none 0 0] 25)
      have hI3 : SlT (w1.alloc (.cells #[.int .i64 0, .slice none 0 0] 25)) (fun q => q < w1.heap.size) (.slice Ax m cx) h := SlT.kept hI1 fun q hq hl => heap_alloc_old _ _ hl
      have hsz : w1.heap.size ≤ (w1.alloc (.cells #[.int .i64 0, .slice none 0 0] 25)).heap.size := by rw [World.size_alloc]; omega
      have hge : W2.heap.size ≤ w1.heap.size := hb1.size
      obtain ⟨w3, hw3⟩ : ∃ w3, w3 = w1.alloc (.cells #[.int .i64 0, .slice none 0 0] 25) := ⟨_, rfl⟩
      obtain ⟨gx, hgx⟩ : ∃ g, g = w1.heap.size := ⟨_, rfl⟩
      rw [← hw3, ← hgx] at hbx hI3
      rw [← hw3] at hb3 hHeld ⊢
      rw [← hgx] at hge ⊢
      have hX := And.intro hb3 (And.intro hbx (And.intro hge (hI3.mono fun q hq => (show q < w3.heap.size ∧ q ≠ gx from ⟨Nat.lt_of_lt_of_le (obj_lt hbx |> fun _ => hq) (by rw [hgx, hw3]; exact hsz), Nat.ne_of_lt hq⟩))))
      have HX := Lib.hid hX
      clear hX hb3 hbx hge hI3 hsz hw3 hgx hI1 ho1 hg1 hb1
    rotate_left
    focus
      go_simp
      have hb1 : Below W2.heap.size W2 (W2.alloc (.cells #[.int .i64 0, .slice none 0 0] 25)).drew := (below_alloc W2 _).drew
      refine hK.out _ _ hb1 (fun hHeld2 => ?_)
      clear hK K hHeld
      have hHeld := hHeld2
      clear hHeld2
      have hbx0 : (W2.alloc (.cells #[.int .i64 0, .slice none 0 0] 25)).drew.heap[W2.heap.size]? = some (.cells #[.int .i64 0, .slice none 0 0] 25 (0, 0)) := heap_alloc_new W2 (.cells #[.int .i64 0, .slice none 0 0] 25)
      have N1 := World.ownsRow_nil (W2.alloc (.cells #[.int .i64 0, .slice none 0 0] 25)).drew (W2.alloc (.cells #[.int .i64 0, .slice none 0 0] 25)).drew.heap.size 5 1
      have hs1 : W2.heap.size < (W2.alloc (.cells #[.int .i64 0, .slice none 0 0] 25)).drew.heap.size := by show _ < (W2.alloc _).heap.size; rw [World.size_alloc]; omega
      obtain ⟨w1, hw1⟩ : ∃ w1, w1 = (W2.alloc (.cells #[.int .i64 0, .slice none 0 0] 25)).drew := ⟨_, rfl⟩
      obtain ⟨gx, hgx⟩ : ∃ g, g = W2.heap.size := ⟨_, rfl⟩
      rw [← hw1] at hb1 N1 hHeld hs1 ⊢
      have hbx1 : w1.heap[gx]? = some (.cells #[.int .i64 0, .slice none 0 0] 25 (0, 0)) := by rw [hw1, hgx]; exact hbx0
      refine wpAnyH_ready (rs := [5]) (by kernel_rfl) (by simp) ?_
      refine AllReadyH.cons (o := { dst := Option.some 31, op := Op.call { callee := Callee.builtin Builtin.append, args := #[Operand.tmp 28, Operand.tmp 30], argTypes := #[23, 23] }, type := 23, pos := "law.go:131", after := #[{ on := 2, ground := Ground.data }, { on := 4, ground := Ground.data }], guard := Option.none }) rfl (fun K hK => ?_) AllReadyH.nil
      refine step_op' rfl (wp_joinB (xs := []) N1 (.tmp 28) (.tmp 30) rfl rfl A m c rfl h (HH.out.1.below (HE.out.1.trans (hb1.mono HE.out.1.size))) (by have := HN.out; simp; omega) (Nat.le_refl _) ?_)
      intro v1 w3 ho1 hg1
      rw [List.nil_append] at ho1
      have hb3 : Below W2.heap.size W2 w3 := hb1.grown hg1 hb1.size (fun q hq => by cases hq)
      have hI1 : SlT w3 (fun q => w1.heap.size ≤ q ∧ q < w3.heap.size) v1 h := SlT.of_own ho1 _ fun q hq => ho1.lt q hq
      obtain ⟨Ax, cx, hv, -, -⟩ := (Bys.of_own ho1).form
      rw [← HH.out.2.2.1] at hv
      subst hv
      refine hK.out _ _ hb3 (fun hHeld2 => ?_)
      clear hK K hHeld
      have hHeld := hHeld2
      clear hHeld2
      simp only [Act.put, List.setIfInBounds_toArray, List.set_cons_zero, List.set_cons_succ]
      refine wpAnyH_take (i := 6) (oi := { dst := Option.some 32, op := Op.build 25 #[(0, Operand.tmp 27), (1, Operand.tmp 31)], type := 25, pos := "law.go:131", after := #[{ on := 1, ground := Ground.data }, { on := 5, ground := Ground.data }], guard := Option.none }) (v := .agg #[.int .i64 key0, .slice Ax m cx]) rfl (by kernel_rfl) (by kernel_rfl) (by kernel_rfl) (fun _ _ _ h => h) (Or.inl ⟨by rfl, ?_⟩) hHeld ?_
      · intro W hSw
        go_simp
      simp only [Act.put, List.setIfInBounds_toArray, List.set_cons_zero, List.set_cons_succ]
      have hbx := (hg1.block gx (by rw [hgx]; exact hs1) (fun e => by cases e)).trans hbx1
      rw [← hgx]
      have hX := And.intro hb3 (And.intro hbx (And.intro (show W2.heap.size ≤ gx by rw [hgx]; exact Nat.le_refl _) (hI1.mono fun q hq => (show q < w3.heap.size ∧ q ≠ gx from ⟨hq.2, by have := hq.1; omega⟩))))
      have HX := Lib.hid hX
      have HG := Lib.hid hgx
      clear hX hb3 hbx hI1 ho1 hg1 hb1 hs1 hw1 hgx hbx0 hbx1 N1
    rotate_left
    all_goals
      obtain ⟨z0, z1, z2⟩ := cells2 HX.out.2.1
      have f0 := z2 0
      have f1 := z2 1
      clear z2
      refine wpAnyH_ready (rs := [8]) (by kernel_rfl) (by simp) ?_
      refine AllReadyH.cons (o := { dst := Option.none, op := Op.store 25 (Operand.tmp 6) (Operand.tmp 32), type := 0, pos := "law.go:131", after := #[{ on := 7, ground := Ground.data }, { on := 6, ground := Ground.data }, { on := 5, ground := Ground.chain }, { on := 0, ground := Ground.phase }, { on := 1, ground := Ground.phase }, { on := 2, ground := Ground.phase }, { on := 3, ground := Ground.phase }, { on := 4, ground := Ground.phase }, { on := 5, ground := Ground.phase }, { on := 6, ground := Ground.phase }, { on := 7, ground := Ground.phase }], guard := Option.none }) rfl (fun K hK => ?_) AllReadyH.nil
      go_simp
      have hq4 := put2 HX.out.2.1 (.int .i64 key0) (.slice Ax m cx)
      have hb4 : Below W2.heap.size W2 ((w3.setCell ⟨gx, 0, none⟩ (.int .i64 key0)).setCell ⟨gx, 1, none⟩ (.slice Ax m cx)) := (HX.out.1.setCell (show W2.heap.size ≤ gx from HX.out.2.2.1) _).setCell (show W2.heap.size ≤ gx from HX.out.2.2.1) _
      have hs4 : SlT ((w3.setCell ⟨gx, 0, none⟩ (.int .i64 key0)).setCell ⟨gx, 1, none⟩ (.slice Ax m cx)) (fun q => q < w3.heap.size ∧ q ≠ gx) (.slice Ax m cx) h := SlT.kept HX.out.2.2.2 fun q hq _ => put2_other _ _ _ _ q hq.2
      have hz4 : ((w3.setCell ⟨gx, 0, none⟩ (.int .i64 key0)).setCell ⟨gx, 1, none⟩ (.slice Ax m cx)).heap.size = w3.heap.size := by rw [World.size_setCell, World.size_setCell]
      refine hK.out _ _ (by first | exact hb4 | (have h := hb4; rw [← HG.out] at h; exact h)) (fun hHeld2 => ?_)
      clear hK K hHeld hHeld2 f0 f1 z0 z1
      obtain ⟨w4, hw4⟩ : ∃ w4, w4 = ((w3.setCell ⟨gx, 0, none⟩ (.int .i64 key0)).setCell ⟨gx, 1, none⟩ (.slice Ax m cx)) := ⟨_, rfl⟩
      rw [← hw4] at hq4 hb4 hs4 hz4 ⊢
      have HY := Lib.hid (And.intro hb4 (And.intro hq4 (hs4.mono fun q hq => show q < w4.heap.size by rw [hz4]; exact hq.1)))
      clear hq4 hb4 hs4 hz4 hw4 HX HD
      refine wpAnyH_done (by kernel_rfl) ?_ _
      obtain ⟨r, hr⟩ : ∃ r, r = putK key0 h key off p last := ⟨_, rfl⟩
      obtain ⟨nv, hnv⟩ : ∃ n, n = r.hav.length := ⟨_, rfl⟩
      obtain ⟨nt, hnt⟩ : ∃ n, n = r.txt.length := ⟨_, rfl⟩
      have CP := Lib.hid (C.cPut key0 Ax m cx h key off A' m' c' p last w4 HY.out.2.2 (HH.out.2.1.below (HE.out.1.trans (HY.out.1.mono HE.out.1.size))) (by have := HN.out; omega) HN.out.2 HI.out.1 HI.out.2.1 HI.out.2.2 r hr)
      have CR := Lib.hid fun (W : World) h1 h2 => PutR_any key0 A m c h key off A' m' c' p last W (fun _ => True) h1 h2 (by have := HN.out; omega) HN.out.2 r hr
      simp only [← hnv, ← hnt] at CP CR
      obtain ⟨x0, x1, -⟩ := cells2 HY.out.2.1
      obtain ⟨y0, y1, y2, y3, -⟩ := cells4 ((HY.out.1.block g1 (obj_lt HE.out.2.2)).trans HE.out.2.2)
      clear hr hnv hnt
      go_upto_region 6 with (go_at_call 7; go_must (refine CP.out.mono ?_; rintro y w5 ⟨Aa, ca, At, ct, rfl, hia, hit, hb5⟩; have HA := Lib.hid (And.intro hia (And.intro hit (HY.out.1.trans (hb5.mono HY.out.1.size)))); have HA5 := Lib.hid hb5; clear hia hit hb5))
      have hb6 := HA.out.2.2.alloc HA.out.2.2.size (.cells #[.int .i64 r.key, .slice Aa nv ca] 25)
      have hqa := heap_alloc_new w5 (.cells #[.int .i64 r.key, .slice Aa nv ca] 25)
      have hia6 : Bys (w5.alloc (.cells #[.int .i64 r.key, .slice Aa nv ca] 25)) (.slice Aa nv ca) r.hav := (Bys.below (HA.out.1.mono fun _ hq => hq.2) (below_alloc w5 _))
      have hit6 : Bys (w5.alloc (.cells #[.int .i64 r.key, .slice Aa nv ca] 25)) (.slice At nt ct) r.txt := HA.out.2.1.below (below_alloc w5 _)
      have hb56 : Below w4.heap.size w4 (w5.alloc (.cells #[.int .i64 r.key, .slice Aa nv ca] 25)) := HA5.out.alloc HA5.out.size _
      obtain ⟨W6, hW6⟩ : ∃ W, W = w5.alloc (.cells #[.int .i64 r.key, .slice Aa nv ca] 25) := ⟨_, rfl⟩
      obtain ⟨ga, hga⟩ : ∃ g, g = w5.heap.size := ⟨_, rfl⟩
      rw [← hW6] at hb6 hqa hia6 hit6 hb56 ⊢
      have H56 := Lib.hid hb56
      rw [← hga] at hqa ⊢
      have H6 := Lib.hid (And.intro hb6 (And.intro hqa (And.intro hia6 hit6)))
      clear hqa hia6 hit6 hb56 hW6 hga x0 x1 y0 y1 y2 y3
      obtain ⟨x0, x1, -⟩ := cells2 ((hb6.block g0 (obj_lt HE.out.2.1)).trans HE.out.2.1)
      obtain ⟨y0, y1, y2, y3, -⟩ := cells4 ((hb6.block g1 (obj_lt HE.out.2.2)).trans HE.out.2.2)
      clear hb6
      go_upto_region 7 with (go_at_call 8; go_must (refine (CR.out _ (SlT.mono (Bys.below HH.out.1 (HE.out.1.trans (H6.out.1.mono HE.out.1.size))) fun _ hq => ⟨hq, trivial⟩) (HH.out.2.1.below (HE.out.1.trans (H6.out.1.mono HE.out.1.size)))).mono ?_; rintro y w7 ⟨Ac, cc, Au, cu, rfl, hic, hiu, hb7⟩; have HC := Lib.hid (And.intro (show Bys w7 _ _ from hic.mono fun _ hq => hq.1) (And.intro hiu hb7)); clear hic hiu hb7))
      have hb8 : Below W6.heap.size W6 (w7.alloc (.cells #[.int .i64 r.key, .slice Ac nv cc] 26)) := HC.out.2.2.alloc HC.out.2.2.size _
      have hqc := heap_alloc_new w7 (.cells #[.int .i64 r.key, .slice Ac nv cc] 26)
      have v1 := conv_bytes (H6.out.2.2.1.below hb8).sl_
      have v2 := conv_bytes (H6.out.2.2.2.below hb8).sl_
      have v3 := conv_bytes (HC.out.1.below (below_alloc w7 (.cells #[.int .i64 r.key, .slice Ac nv cc] 26))).sl_
      have v4 := conv_bytes (HC.out.2.1.below (below_alloc w7 (.cells #[.int .i64 r.key, .slice Ac nv cc] 26))).sl_
      have hb28 := H6.out.1.trans (hb8.mono H6.out.1.size)
      have hb48 := H56.out.trans (hb8.mono H56.out.size)
      have v5 := conv_bytes (Bys.below HY.out.2.2 hb48).sl_
      have v6 := conv_bytes (HH.out.1.below (HE.out.1.trans (hb28.mono HE.out.1.size))).sl_
      have qx := (hb48.block gx (obj_lt HY.out.2.1)).trans HY.out.2.1
      have q0 := (hb28.block g0 (obj_lt HE.out.2.1)).trans HE.out.2.1
      have qa := (hb8.block ga (obj_lt H6.out.2.1)).trans H6.out.2.1
      obtain ⟨W8, hW8⟩ : ∃ W, W = w7.alloc (.cells #[.int .i64 r.key, .slice Ac nv cc] 26) := ⟨_, rfl⟩
      obtain ⟨gc, hgc⟩ : ∃ g, g = w7.heap.size := ⟨_, rfl⟩
      rw [← hW8] at hqc v1 v2 v3 v4 v5 v6 hb28 qx q0 qa ⊢
      rw [← hgc] at hqc ⊢
      have H8 := Lib.hid (HE.out.1.trans (hb28.mono HE.out.1.size))
      clear x0 x1 y0 y1 y2 y3
      obtain ⟨a0, a1, -⟩ := cells2 qx
      obtain ⟨a2, a3, -⟩ := cells2 q0
      obtain ⟨a4, a5, -⟩ := cells2 qa
      obtain ⟨a6, a7, -⟩ := cells2 hqc
      clear qx q0 qa hqc hW8 hgc hb8 hb28 hb48
      go_wp2_with (go_at_call 9; go_must (refine (sureK C _).mono ?_; rintro y w9 ⟨rfl, hb9⟩; have HB := Lib.hid (H8.out.trans (hb9.mono H8.out.size)); clear hb9))
      go_ret
      exact ⟨rfl, HB.out⟩

end Go.Proofs.Ytfdccdjfbdmblaa.pk
