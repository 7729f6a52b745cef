/-
  The program's own New: walked.
-/
import Derived.Test.YthcikgbnenfjpaaDoorMineD
import Derived.Deep.RegionHeld3
import Derived.Test.YthcikgbnenfjpaaDoorTailQ
namespace Go.Proofs.YthcikgbnenfjpaaDoor.pk
open Go Go.RowKit
set_option maxRecDepth 100000

/-- A step of a region that draws its order, out of the operation's own law. -/
theorem step_wp {P : Program} {ops : Array Oper} {o : Oper} {a : Act} {w : World} {K : Act → World → Prop} {Q : Exit → Act → World → Prop} {E : Prop} (hgd : o.guard = none) (h : Oper.wp P o a w K Q) : if Region.wanted o (yielded ops a.tmps) = true then Oper.wp P o a w K Q else E := by
  rw [if_pos (by simp [Region.wanted, hgd])]
  exact h
theorem wp_make_full {P : Program} {w : World} {o : Oper} {a : Act} {K : Act → World → Prop} {Q : Exit → Act → World → Prop} (l c : Operand) (t : TypeId) (hop : o.op = Op.makeSlice t l c)
    (base : Nat) (e : TypeId) (i : TypeInfo) (z : Value) (size : Nat) (h1 : P.underlying t = some (.slice e)) (h2 : P.info? e = some i) (h3 : i.zero = some z) (h4 : i.size = size)
    (kl kc : IntKind) (n : Nat) (hl : a.eval l = .int kl (n : Int)) (hc : a.eval c = .int kc (n : Int)) (b2 : i.bytes * n ≤ 281474976710656) (b3 : n ≤ maxLen) (b4 : base ≤ w.heap.size)
    (hK : ∀ w', w'.ownsRow base e size (.slice (some ⟨w.heap.size, 0, none⟩) n n) n (madeCells z.cells (n * size)).toList → w.grownBy w' none → K (a.put o.dst (.slice (some ⟨w.heap.size, 0, none⟩) n n)) w') : o.wp P a w K Q := by
  obtain ⟨w', hrun, r1, r2⟩ := run_make_full (P := P) w base t e i z size h1 h2 h3 h4 kl kc n b2 b3 b4
  unfold Oper.wp
  simp [execOp, hop, hl, hc, hrun, Result.andThen]
  exact hK w' r1 r2
theorem made_noughts (n : Nat) : (madeCells (Value.int .u8 0).cells (n * 1)).toList = Lib.byteCells (List.replicate n 0) := by
  apply List.ext_getElem?
  intro j
  rw [byteCells_get, List.getElem?_replicate]
  simp only [madeCells, Value.cells, Nat.mul_one]
  by_cases hj : j < n
  · simp [hj, Nat.mod_one]
  · simp [hj]

set_option maxHeartbeats 1000000 in
theorem New_any (R : Nat → Prop) (wR : World) (hR : ∀ k, ¬ R k) (n : Nat) (w : World) (h1 : 1 ≤ n) (h2 : n ≤ 4194304) :
    Calls Tryd.prog 8 #[.int .i64 (n : Int)] w fun x w' => ∃ p S, x = .returned (.tuple #[.pointer (some ⟨p, 0, none⟩), .nilIface]) ∧ DKr R wR w' S p (newD n) ∧ (∀ k, S k → w.heap.size ≤ k) ∧ Below w.heap.size w w' := by
  obtain ⟨i0, hi, hz0, hz1, hz2⟩ := info_parts info_u8
  have HI := Lib.hid (And.intro hi (And.intro hz0 (And.intro hz1 hz2)))
  have fin : ∀ (gn gs : Nat) (W : World) (zn zs : List Value), gn ≠ gs → w.heap.size ≤ gn → w.heap.size ≤ gs → W.ownsRow 0 5 1 (.slice (some ⟨gn, 0, none⟩) n n) n (madeCells (Value.int .u8 0).cells (n * 1)).toList →
      W.ownsRow 0 5 1 (.slice (some ⟨gs, 0, none⟩) n n) n (madeCells (Value.int .u8 0).cells (n * 1)).toList → Below w.heap.size w W →
      DKr R wR (W.alloc (.cells #[.slice (some ⟨gn, 0, none⟩) n n, .slice (some ⟨gs, 0, none⟩) n n, .slice none 0 0, .bool false, .bool false, .int .i64 0] 61)) (fun k => w.heap.size ≤ k ∧ k < W.heap.size + 1) W.heap.size (newD n) ∧
        Below w.heap.size w (W.alloc (.cells #[.slice (some ⟨gn, 0, none⟩) n n, .slice (some ⟨gs, 0, none⟩) n n, .slice none 0 0, .bool false, .bool false, .int .i64 0] 61)) := by
    intro gn gs W _ _ hne hn hs on os hb
    rw [made_noughts] at on os
    have l1 := (on.lt gn rfl).2
    have l2 := (os.lt gs rfl).2
    have hl : (newD n).B.length = n := List.length_replicate
    refine ⟨⟨gn, gs, n, n, .slice none 0 0, [], false, 0, ?_, fun k hk => absurd hk (hR k), ⟨newD_ok n, by rw [hl]; exact ⟨h1, h2⟩⟩, ⟨by show (-1 : Int) ≤ _; omega, fun _ => ⟨rfl, fun (hc : (0 : Int) ≤ -1) => by omega⟩⟩⟩, hb.alloc hb.size _⟩
    rw [hl]
    exact ⟨heap_alloc_new W _, on.alloc _, os.alloc _, World.ownsRow_nil _ _ _ _, fun j hj => (by simp [newD] at hj), (by omega), (by omega), hne, fun g hg => (by cases hg), ⟨hb.size, (by omega)⟩, ⟨hn, (by omega)⟩, ⟨hs, (by omega)⟩, fun g hg => (by cases hg), fun k hk => (by rw [World.size_alloc]; exact hk.2)⟩
  have FIN := Lib.hid fin
  have i1 : ¬ (n : Int) < 1 := by omega
  have i2 : ¬ (4194304 : Int) < (n : Int) := by omega
  clear fin hi hz0 hz1 hz2
  go_enter Tryd.func8, Tryd.ntmps8
  go_upto_region 3 with fail
  refine wp_region_held_drew (S := fun W => Below w.heap.size w W) (by kernel_rfl) (Below.refl _ _).drew (fun hHeld => ?_)
  refine wpAnyH_take (i := 0) (oi := { dst := Option.some 11, op := Op.move (Operand.tmp 0), type := 3, pos := "disk.go:34", after := #[], guard := Option.none }) (v := .int .i64 (n : Int)) rfl (by kernel_rfl) (by kernel_rfl) (by kernel_rfl) (fun _ _ _ h => h) (Or.inl ⟨by rfl, ?_⟩) hHeld ?_
  · intro W hSw
    go_simp
  simp only [Act.put, List.setIfInBounds_toArray, List.set_cons_zero, List.set_cons_succ]
  refine wpAnyH_take (i := 2) (oi := { dst := Option.some 13, op := Op.move (Operand.tmp 0), type := 3, pos := "disk.go:34", after := #[], guard := Option.none }) (v := .int .i64 (n : Int)) rfl (by kernel_rfl) (by kernel_rfl) (by kernel_rfl) (fun _ _ _ h => h) (Or.inl ⟨by rfl, ?_⟩) hHeld ?_
  · intro W hSw
    go_simp
  simp only [Act.put, List.setIfInBounds_toArray, List.set_cons_zero, List.set_cons_succ]
  refine wpAnyH_ready (rs := [1, 3]) (by kernel_rfl) (by simp) ?_
  refine AllReadyH.cons (o := { dst := Option.some 12, op := Op.makeSlice 22 (Operand.tmp 11) (Operand.tmp 11), type := 22, pos := "disk.go:34", after := #[{ on := 0, ground := Ground.data }, { on := 0, ground := Ground.data }], guard := Option.none }) rfl (fun K hK => ?o1) (AllReadyH.cons (o := { dst := Option.some 14, op := Op.makeSlice 22 (Operand.tmp 13) (Operand.tmp 13), type := 22, pos := "disk.go:34", after := #[{ on := 2, ground := Ground.data }, { on := 2, ground := Ground.data }], guard := Option.none }) rfl (fun K hK => ?o2) AllReadyH.nil)
  case' o1 =>
    refine step_wp rfl (wp_make_full (.tmp 11) (.tmp 11) 22 rfl 0 5 i0 _ 1 Tryd.underlying22 HI.out.1 HI.out.2.1 HI.out.2.2.1 .i64 .i64 n rfl rfl (by rw [HI.out.2.2.2]; omega) (by unfold maxLen; omega) (Nat.zero_le _) ?_)
    intro w2 ho1 hg1
    refine hK.out _ _ ((Below.refl w.heap.size w).drew.grown hg1 (Nat.le_refl _) (fun k hk => by cases hk)) (fun hHeld2 => ?_)
    clear hK K hHeld
    simp only [Act.put, List.setIfInBounds_toArray, List.set_cons_zero, List.set_cons_succ]
    refine wpAnyH_ready (rs := [3]) (by kernel_rfl) (by simp) ?_
    refine AllReadyH.cons (o := { dst := Option.some 14, op := Op.makeSlice 22 (Operand.tmp 13) (Operand.tmp 13), type := 22, pos := "disk.go:34", after := #[{ on := 2, ground := Ground.data }, { on := 2, ground := Ground.data }], guard := Option.none }) rfl (fun K hK => ?_) AllReadyH.nil
    refine step_wp rfl (wp_make_full (.tmp 13) (.tmp 13) 22 rfl 0 5 i0 _ 1 Tryd.underlying22 HI.out.1 HI.out.2.1 HI.out.2.2.1 .i64 .i64 n rfl rfl (by rw [HI.out.2.2.2]; omega) (by unfold maxLen; omega) (Nat.zero_le _) ?_)
    intro w3 ho2 hg2
    refine hK.out _ _ (hHeld2.grown hg2 hHeld2.size (fun k hk => by cases hk)) (fun hHeld3 => ?_)
    clear hK K
    simp only [Act.put, List.setIfInBounds_toArray, List.set_cons_zero, List.set_cons_succ]
    have hlt := (ho1.lt w.drew.heap.size rfl).2
    have ho1' := ho1.kept hg2 (by exact Or.inr (by simp [Value.ownBlock]))
    have FF := Lib.hid (FIN.out w.drew.heap.size w2.heap.size w3 [] [] (by show _ ≠ _; omega) (Nat.le_refl _) hHeld2.size ho1' ho2 hHeld3)
    clear ho1 ho2 hg1 hg2 ho1' hlt
    generalize w2.heap.size = g2 at FF ⊢
    generalize w.drew.heap.size = g1 at FF ⊢
  case' o2 =>
    refine step_wp rfl (wp_make_full (.tmp 13) (.tmp 13) 22 rfl 0 5 i0 _ 1 Tryd.underlying22 HI.out.1 HI.out.2.1 HI.out.2.2.1 .i64 .i64 n rfl rfl (by rw [HI.out.2.2.2]; omega) (by unfold maxLen; omega) (Nat.zero_le _) ?_)
    intro w2 ho1 hg1
    refine hK.out _ _ ((Below.refl w.heap.size w).drew.grown hg1 (Nat.le_refl _) (fun k hk => by cases hk)) (fun hHeld2 => ?_)
    clear hK K hHeld
    simp only [Act.put, List.setIfInBounds_toArray, List.set_cons_zero, List.set_cons_succ]
    refine wpAnyH_ready (rs := [1]) (by kernel_rfl) (by simp) ?_
    refine AllReadyH.cons (o := { dst := Option.some 12, op := Op.makeSlice 22 (Operand.tmp 11) (Operand.tmp 11), type := 22, pos := "disk.go:34", after := #[{ on := 0, ground := Ground.data }, { on := 0, ground := Ground.data }], guard := Option.none }) rfl (fun K hK => ?_) AllReadyH.nil
    refine step_wp rfl (wp_make_full (.tmp 11) (.tmp 11) 22 rfl 0 5 i0 _ 1 Tryd.underlying22 HI.out.1 HI.out.2.1 HI.out.2.2.1 .i64 .i64 n rfl rfl (by rw [HI.out.2.2.2]; omega) (by unfold maxLen; omega) (Nat.zero_le _) ?_)
    intro w3 ho2 hg2
    refine hK.out _ _ (hHeld2.grown hg2 hHeld2.size (fun k hk => by cases hk)) (fun hHeld3 => ?_)
    clear hK K
    simp only [Act.put, List.setIfInBounds_toArray, List.set_cons_zero, List.set_cons_succ]
    have hlt := (ho1.lt w.drew.heap.size rfl).2
    have ho1' := ho1.kept hg2 (by exact Or.inr (by simp [Value.ownBlock]))
    have FF := Lib.hid (FIN.out w2.heap.size w.drew.heap.size w3 [] [] (by show _ ≠ _; omega) hHeld2.size (Nat.le_refl _) ho2 ho1' hHeld3)
    clear ho1 ho2 hg1 hg2 ho1' hlt
    generalize w2.heap.size = g2 at FF ⊢
    generalize w.drew.heap.size = g1 at FF ⊢
  all_goals
    refine wpAnyH_ready (rs := [4]) (by kernel_rfl) (by simp) ?_
    refine AllReadyH.cons (o := { dst := Option.some 15, op := Op.build 61 #[(0, Operand.tmp 12), (1, Operand.tmp 14)], type := 61, pos := "disk.go:34", after := #[{ on := 1, ground := Ground.data }, { on := 3, ground := Ground.data }], guard := Option.none }) rfl (fun K hK => ?_) AllReadyH.nil
    go_simp
    refine hK.out _ _ hHeld3 (fun hHeld => ?_)
    clear hK K hHeld
    refine wpAnyH_ready (rs := [5]) (by kernel_rfl) (by simp) ?_
    refine AllReadyH.cons (o := { dst := Option.some 16, op := Op.box 61 (Operand.tmp 15), type := 24, pos := "disk.go:34", after := #[{ on := 4, ground := Ground.data }], guard := Option.none }) rfl (fun K hK => ?_) AllReadyH.nil
    go_simp
    refine hK.out _ _ FF.out.2 (fun hHeld => ?_)
    clear hK K hHeld
    refine wpAnyH_ready (rs := [6]) (by kernel_rfl) (by simp) ?_
    refine AllReadyH.cons (o := { dst := Option.some 2, op := Op.assign (Operand.tmp 16), type := 24, pos := "disk.go:34", after := #[{ on := 5, ground := Ground.data }, { on := 0, ground := Ground.phase }, { on := 1, ground := Ground.phase }, { on := 2, ground := Ground.phase }, { on := 3, ground := Ground.phase }, { on := 4, ground := Ground.phase }, { on := 5, ground := Ground.phase }], guard := Option.none }) rfl (fun K hK => ?_) AllReadyH.nil
    go_simp
    refine hK.out _ _ FF.out.2 (fun hHeld => ?_)
    clear hK K hHeld
    refine wpAnyH_ready (rs := [7]) (by kernel_rfl) (by simp) ?_
    refine AllReadyH.cons (o := { dst := Option.some 3, op := Op.assign (Operand.const Value.nilIface), type := 26, pos := "disk.go:34", after := #[{ on := 6, ground := Ground.chain }, { on := 0, ground := Ground.phase }, { on := 1, ground := Ground.phase }, { on := 2, ground := Ground.phase }, { on := 3, ground := Ground.phase }, { on := 4, ground := Ground.phase }, { on := 5, ground := Ground.phase }, { on := 6, ground := Ground.phase }], guard := Option.none }) rfl (fun K hK => ?_) AllReadyH.nil
    go_simp
    refine hK.out _ _ FF.out.2 (fun hHeld => ?_)
    clear hK K hHeld
    refine wpAnyH_done (by kernel_rfl) ?_ _
    go_wp2_with fail
    go_ret2
    exact ⟨_, rfl, _, FF.out.1, fun k hk => hk.1, FF.out.2⟩

end Go.Proofs.YthcikgbnenfjpaaDoor.pk
