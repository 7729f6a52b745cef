import Derived.Test.YtncaefocijainaaGreatDoorG16
import Derived.Deep.RegionHeld3
import Derived.Lib.QuietBelow
import Derived.BigQuiet
import Derived.Test.YtncaefocijainaaGreatDoorG14
import Derived.Test.YtncaefocijainaaGreatDoorG09
namespace Go.Proofs.YtncaefocijainaaGreatDoor.pk
open Go Go.RowKit
set_option maxRecDepth 100000
section
theorem step_wp {P : Program} {ops : Array Oper} {o : Oper} {a : Act} {w : World} {K : Act → World → Prop} {Q : Exit → Act → World → Prop} {E : Prop} (hgd : o.guard = none) (h : Oper.wp P o a w K Q) : if Region.wanted o (yielded ops a.tmps) = true then Oper.wp P o a w K Q else E := by
 rw [if_pos (by simp [Region.wanted, hgd])]
 exact h
theorem wp_make_full {P : Program} {w : World} {o : Oper} {a : Act} {K : Act → World → Prop} {Q : Exit → Act → World → Prop} (l c : Operand) (t : TypeId) (hop : o.op = Op.makeSlice t l c)
   (base : Nat) (e : TypeId) (i : TypeInfo) (z : Value) (size : Nat) (h1 : P.underlying t = some (.slice e)) (h2 : P.info? e = some i) (h3 : i.zero = some z) (h4 : i.size = size)
   (kl kc : IntKind) (n : Nat) (hl : a.eval l = .int kl (n : Int)) (hc : a.eval c = .int kc (n : Int)) (b2 : i.bytes * n ≤ 281474976710656) (b3 : n ≤ maxLen) (b4 : base ≤ w.heap.size)
   (hK : ∀ w', w'.ownsRow base e size (.slice (some ⟨w.heap.size, 0, none⟩) n n) n (madeCells z.cells (n * size)).toList → w.grownBy w' none → K (a.put o.dst (.slice (some ⟨w.heap.size, 0, none⟩) n n)) w') : o.wp P a w K Q := by
 obtain ⟨w', hrun, r1, r2⟩ := run_make_full (P := P) w base t e i z size h1 h2 h3 h4 kl kc n b2 b3 b4
 unfold Oper.wp
 simp [execOp, hop, hl, hc, hrun, Result.andThen]
 exact hK w' r1 r2
theorem made_noughts (n : Nat) : (madeCells (Value.int .u8 0).cells (n * 1)).toList = Lib.byteCells (List.replicate n 0) := by
 apply List.ext_getElem?
 intro j
 rw [byteCells_get, List.getElem?_replicate]
 simp only [madeCells, Value.cells, Nat.mul_one]
 by_cases hj : j < n
 · simp [hj, Nat.mod_one]
 · simp [hj]
set_option maxHeartbeats 1000000 in
theorem DNew_any (R : Nat → Prop) (wR : World) (hR : ∀ k, ¬ R k) (n : Nat) (w : World) (h1 : 1 ≤ n) (h2 : n ≤ 4194304) :
   Calls Tryz.prog 34 #[.int .i64 (n : Int)] w fun x w' => ∃ p S, x = .returned (.tuple #[.pointer (some ⟨p, 0, none⟩), .nilIface]) ∧ DKr R wR w' S p (newD n) ∧ (∀ k, S k → w.heap.size ≤ k) ∧ Below w.heap.size w w' := by
 obtain ⟨i0, hi, hz0, hz1, hz2⟩ := info_parts info_u8
 have HI := jI (jA hi (jA hz0 (jA hz1 hz2)))
 have fin : ∀ (gn gs : Nat) (W : World) (zn zs : List Value), gn ≠ gs → w.heap.size ≤ gn → w.heap.size ≤ gs → W.ownsRow 0 5 1 (.slice (some ⟨gn, 0, none⟩) n n) n (madeCells (Value.int .u8 0).cells (n * 1)).toList →
     W.ownsRow 0 5 1 (.slice (some ⟨gs, 0, none⟩) n n) n (madeCells (Value.int .u8 0).cells (n * 1)).toList → Below w.heap.size w W →
     DKr R wR (W.alloc (.cells #[.slice (some ⟨gn, 0, none⟩) n n, .slice (some ⟨gs, 0, none⟩) n n, .slice none 0 0, .bool false, .bool false, .int .i64 0] 107)) (fun k => w.heap.size ≤ k ∧ k < W.heap.size + 1) W.heap.size (newD n) ∧
       Below w.heap.size w (W.alloc (.cells #[.slice (some ⟨gn, 0, none⟩) n n, .slice (some ⟨gs, 0, none⟩) n n, .slice none 0 0, .bool false, .bool false, .int .i64 0] 107)) := by
   intro gn gs W _ _ hne hn hs on os hb
   rw [made_noughts] at on os
   have l1 := (on.lt gn rfl).2
   have l2 := (os.lt gs rfl).2
   have hl : (newD n).B.length = n := List.length_replicate
   refine ⟨⟨gn, gs, n, n, .slice none 0 0, [], false, 0, ?_, fun k hk => absurd hk (hR k), ⟨newD_ok n, by rw [hl]; exact ⟨h1, h2⟩⟩, ⟨by show (-1 : Int) ≤ _; omega, fun _ => ⟨rfl, fun (hc : (0 : Int) ≤ -1) => by omega⟩⟩⟩, hb.alloc hb.size _⟩
   rw [hl]
   exact ⟨heap_alloc_new W _, on.alloc _, os.alloc _, World.ownsRow_nil _ _ _ _, fun j hj => (by simp [newD] at hj), (by omega), (by omega), hne, fun g hg => (by cases hg), ⟨hb.size, (by omega)⟩, ⟨hn, (by omega)⟩, ⟨hs, (by omega)⟩, fun g hg => (by cases hg), fun k hk => (by rw [World.size_alloc]; exact hk.2)⟩
 have FIN := jI fin
 have i1 : ¬ (n : Int) < 1 := by omega
 have i2 : ¬ (4194304 : Int) < (n : Int) := by omega
 clear fin hi hz0 hz1 hz2
 go_enter Tryz.func34, Tryz.ntmps34
 go_upto_region 3 with fail
 refine wp_region_held_drew (S := fun W => Below w.heap.size w W) (by kernel_rfl) (Below.refl _ _).drew (fun hHeld => ?_)
 refine wpAnyH_take (i := 0) (oi := { dst := Option.some 11, op := Op.move (Operand.tmp 0), type := 3, pos := "disk.go:34", after := #[], guard := Option.none }) (v := .int .i64 (n : Int)) rfl (by kernel_rfl) (by kernel_rfl) (by kernel_rfl) (fun _ _ _ h => h) (Or.inl ⟨by rfl, ?_⟩) hHeld ?_
 · intro W hSw
   go_simp
 simp only [Act.put, qA, qB, qC]
 refine wpAnyH_take (i := 2) (oi := { dst := Option.some 13, op := Op.move (Operand.tmp 0), type := 3, pos := "disk.go:34", after := #[], guard := Option.none }) (v := .int .i64 (n : Int)) rfl (by kernel_rfl) (by kernel_rfl) (by kernel_rfl) (fun _ _ _ h => h) (Or.inl ⟨by rfl, ?_⟩) hHeld ?_
 · intro W hSw
   go_simp
 simp only [Act.put, qA, qB, qC]
 refine wpAnyH_ready (rs := [1, 3]) (by kernel_rfl) (by simp) ?_
 refine AllReadyH.cons (o := { dst := Option.some 12, op := Op.makeSlice 33 (Operand.tmp 11) (Operand.tmp 11), type := 33, pos := "disk.go:34", after := #[{ on := 0, ground := Ground.data }, { on := 0, ground := Ground.data }], guard := Option.none }) rfl (fun K hK => ?o1) (AllReadyH.cons (o := { dst := Option.some 14, op := Op.makeSlice 33 (Operand.tmp 13) (Operand.tmp 13), type := 33, pos := "disk.go:34", after := #[{ on := 2, ground := Ground.data }, { on := 2, ground := Ground.data }], guard := Option.none }) rfl (fun K hK => ?o2) AllReadyH.nil)
 case' o1 =>
   refine step_wp rfl (wp_make_full (.tmp 11) (.tmp 11) 33 rfl 0 5 i0 _ 1 Tryz.underlying33 HI.out.1 HI.out.2.1 HI.out.2.2.1 .i64 .i64 n rfl rfl (by rw [HI.out.2.2.2]; omega) (by unfold maxLen; omega) (Nat.zero_le _) ?_)
   intro w2 ho1 hg1
   refine hK.out _ _ ((Below.refl w.heap.size w).drew.grown hg1 (Nat.le_refl _) (fun k hk => by cases hk)) (fun hHeld2 => ?_)
   clear hK K hHeld
   simp only [Act.put, qA, qB, qC]
   refine wpAnyH_ready (rs := [3]) (by kernel_rfl) (by simp) ?_
   refine AllReadyH.cons (o := { dst := Option.some 14, op := Op.makeSlice 33 (Operand.tmp 13) (Operand.tmp 13), type := 33, pos := "disk.go:34", after := #[{ on := 2, ground := Ground.data }, { on := 2, ground := Ground.data }], guard := Option.none }) rfl (fun K hK => ?_) AllReadyH.nil
   refine step_wp rfl (wp_make_full (.tmp 13) (.tmp 13) 33 rfl 0 5 i0 _ 1 Tryz.underlying33 HI.out.1 HI.out.2.1 HI.out.2.2.1 .i64 .i64 n rfl rfl (by rw [HI.out.2.2.2]; omega) (by unfold maxLen; omega) (Nat.zero_le _) ?_)
   intro w3 ho2 hg2
   refine hK.out _ _ (hHeld2.grown hg2 hHeld2.size (fun k hk => by cases hk)) (fun hHeld3 => ?_)
   clear hK K
   simp only [Act.put, qA, qB, qC]
   have hlt := (ho1.lt w.drew.heap.size rfl).2
   have ho1' := ho1.kept hg2 (by exact Or.inr (by simp [Value.ownBlock]))
   have FF := jI (FIN.out w.drew.heap.size w2.heap.size w3 [] [] (by show _ ≠ _; omega) (Nat.le_refl _) hHeld2.size ho1' ho2 hHeld3)
   clear ho1 ho2 hg1 hg2 ho1' hlt
   generalize w2.heap.size = g2 at FF ⊢
   generalize w.drew.heap.size = g1 at FF ⊢
 case' o2 =>
   refine step_wp rfl (wp_make_full (.tmp 13) (.tmp 13) 33 rfl 0 5 i0 _ 1 Tryz.underlying33 HI.out.1 HI.out.2.1 HI.out.2.2.1 .i64 .i64 n rfl rfl (by rw [HI.out.2.2.2]; omega) (by unfold maxLen; omega) (Nat.zero_le _) ?_)
   intro w2 ho1 hg1
   refine hK.out _ _ ((Below.refl w.heap.size w).drew.grown hg1 (Nat.le_refl _) (fun k hk => by cases hk)) (fun hHeld2 => ?_)
   clear hK K hHeld
   simp only [Act.put, qA, qB, qC]
   refine wpAnyH_ready (rs := [1]) (by kernel_rfl) (by simp) ?_
   refine AllReadyH.cons (o := { dst := Option.some 12, op := Op.makeSlice 33 (Operand.tmp 11) (Operand.tmp 11), type := 33, pos := "disk.go:34", after := #[{ on := 0, ground := Ground.data }, { on := 0, ground := Ground.data }], guard := Option.none }) rfl (fun K hK => ?_) AllReadyH.nil
   refine step_wp rfl (wp_make_full (.tmp 11) (.tmp 11) 33 rfl 0 5 i0 _ 1 Tryz.underlying33 HI.out.1 HI.out.2.1 HI.out.2.2.1 .i64 .i64 n rfl rfl (by rw [HI.out.2.2.2]; omega) (by unfold maxLen; omega) (Nat.zero_le _) ?_)
   intro w3 ho2 hg2
   refine hK.out _ _ (hHeld2.grown hg2 hHeld2.size (fun k hk => by cases hk)) (fun hHeld3 => ?_)
   clear hK K
   simp only [Act.put, qA, qB, qC]
   have hlt := (ho1.lt w.drew.heap.size rfl).2
   have ho1' := ho1.kept hg2 (by exact Or.inr (by simp [Value.ownBlock]))
   have FF := jI (FIN.out w2.heap.size w.drew.heap.size w3 [] [] (by show _ ≠ _; omega) hHeld2.size (Nat.le_refl _) ho2 ho1' hHeld3)
   clear ho1 ho2 hg1 hg2 ho1' hlt
   generalize w2.heap.size = g2 at FF ⊢
   generalize w.drew.heap.size = g1 at FF ⊢
 all_goals
   refine wpAnyH_ready (rs := [4]) (by kernel_rfl) (by simp) ?_
   refine AllReadyH.cons (o := { dst := Option.some 15, op := Op.build 107 #[(0, Operand.tmp 12), (1, Operand.tmp 14)], type := 107, pos := "disk.go:34", after := #[{ on := 1, ground := Ground.data }, { on := 3, ground := Ground.data }], guard := Option.none }) rfl (fun K hK => ?_) AllReadyH.nil
   go_simp
   refine hK.out _ _ hHeld3 (fun hHeld => ?_)
   clear hK K hHeld
   refine wpAnyH_ready (rs := [5]) (by kernel_rfl) (by simp) ?_
   refine AllReadyH.cons (o := { dst := Option.some 16, op := Op.box 107 (Operand.tmp 15), type := 40, pos := "disk.go:34", after := #[{ on := 4, ground := Ground.data }], guard := Option.none }) rfl (fun K hK => ?_) AllReadyH.nil
   go_simp
   refine hK.out _ _ FF.out.2 (fun hHeld => ?_)
   clear hK K hHeld
   refine wpAnyH_ready (rs := [6]) (by kernel_rfl) (by simp) ?_
   refine AllReadyH.cons (o := { dst := Option.some 2, op := Op.assign (Operand.tmp 16), type := 40, pos := "disk.go:34", after := #[{ on := 5, ground := Ground.data }, { on := 0, ground := Ground.phase }, { on := 1, ground := Ground.phase }, { on := 2, ground := Ground.phase }, { on := 3, ground := Ground.phase }, { on := 4, ground := Ground.phase }, { on := 5, ground := Ground.phase }], guard := Option.none }) rfl (fun K hK => ?_) AllReadyH.nil
   go_simp
   refine hK.out _ _ FF.out.2 (fun hHeld => ?_)
   clear hK K hHeld
   refine wpAnyH_ready (rs := [7]) (by kernel_rfl) (by simp) ?_
   refine AllReadyH.cons (o := { dst := Option.some 3, op := Op.assign (Operand.const Value.nilIface), type := 27, pos := "disk.go:34", after := #[{ on := 6, ground := Ground.chain }, { on := 0, ground := Ground.phase }, { on := 1, ground := Ground.phase }, { on := 2, ground := Ground.phase }, { on := 3, ground := Ground.phase }, { on := 4, ground := Ground.phase }, { on := 5, ground := Ground.phase }, { on := 6, ground := Ground.phase }], guard := Option.none }) rfl (fun K hK => ?_) AllReadyH.nil
   go_simp
   refine hK.out _ _ FF.out.2 (fun hHeld => ?_)
   clear hK K hHeld
   refine wpAnyH_done (by kernel_rfl) ?_ _
   go_wp2_with fail
   go_ret2
   exact ⟨_, rfl, _, FF.out.1, fun k hk => hk.1, FF.out.2⟩
end
section
theorem wp_append_at {P : Program} {w : World} {o : Oper} {a : Act} {K : Act → World → Prop} {Q : Exit → Act → World → Prop} (s x : Operand) (t : TypeId)
   (ho : o.op = .call { callee := .builtin .append, args := #[s, x], argTypes := #[t, t] })
   (base : Nat) (e : TypeId) (i : TypeInfo) (z : Value) (size bytes : Nat) (ht : P.underlying t = some (.slice e)) (hi : P.info? e = some i) (hz : i.zero = some z)
   (hsize : i.size = size) (hby : i.bytes = bytes) (hzs : z.cells.size = size) (hs0 : 0 < size) (v : Value) (n : Nat) (xs : List Value) (hs : a.eval s = v) (hown : w.ownsRow base e size v n xs)
   (ad : Addr) (m c : Nat) (cs : List Value) (hx : a.eval x = .slice (some ad) m c) (hl : cs.length = m * size) (hc : ∀ j u, cs[j]? = some u → w.cell? (ad.add j) = some u) (h1c : ∀ u ∈ cs, u.oneCell' = true) (hmax : n + m ≤ maxLen) (hbytes : (n + m) * bytes ≤ 140737488355328) (hbase : base ≤ w.heap.size)
   (hK : ∀ v' w', w'.ownsRow base e size v' (n + m) (xs ++ cs) → w.grownBy w' v.ownBlock → (v'.ownBlock = v.ownBlock ∨ v'.ownBlock = some w.heap.size) → K (a.put o.dst v') w') : o.wp P a w K Q := by
 obtain ⟨v', w', hrun, h2, h3, -, h4⟩ := run_append_own_at (P := P) w base t o.type e i z size bytes ht hi hz hsize hby hzs hs0 v n xs hown ad m c cs hl hc h1c hmax hbytes hbase
 unfold Oper.wp execOp
 simp only [ho, resolve, invoke, builtin, Sem.run_bind, Sem.run_pure, Result.andThen_ok, List.map_toArray, List.map_cons, List.map_nil, hs, hx, hrun]
 exact hK v' w' h2 h3 h4
section
variable {w w' : World} {S : Nat → Prop} {p gn gs nc sc n : Nat} {vw : Value} {cs : List Value} {nowb safeb : List UInt8} {L : List (Nat × List UInt8)} {off ar : Bool} {ah : Int}
theorem Rep.push (h : Rep w S p gn gs nc sc n vw cs nowb safeb L off ar ah) (hs : w.heap.size ≤ w'.heap.size) (hk : ∀ k, k < w.heap.size → vw.ownBlock ≠ some k → w'.heap[k]? = w.heap[k]?) {v : Value} {at_ : Nat} {u : Value} {x : List UInt8}
   (ho : w'.ownsRow 0 110 2 v (L.length + 1) (cs ++ [.int .i64 (at_ : Int), u])) (hv : ∀ g, v.ownBlock = some g → vw.ownBlock = some g ∨ w.heap.size ≤ g)
   (hu : SlT w' (fun k => w.heap.size ≤ k ∧ k < w'.heap.size ∧ v.ownBlock ≠ some k) u x) :
   Rep (w'.setCell ⟨p, 2, none⟩ v) (fun k => S k ∨ (w.heap.size ≤ k ∧ k < w'.heap.size)) p gn gs nc sc n v (cs ++ [.int .i64 (at_ : Int), u]) nowb safeb (L ++ [(at_, x)]) off ar ah := by
 have hp := h.foot p h.sp
 have hn := h.foot gn h.sn
 have hss := h.foot gs h.ss
 have hq : ∀ k, k ≠ p → (w'.setCell ⟨p, 2, none⟩ v).heap[k]? = w'.heap[k]? := fun k hk => by simp [World.setCell, Array.getElem?_modify, Ne.symm hk]
 have hz : (w'.setCell ⟨p, 2, none⟩ v).heap.size = w'.heap.size := by simp [World.setCell]
 have d4 : ∀ g, v.ownBlock = some g → g ≠ p ∧ g ≠ gn ∧ g ≠ gs := fun g e => by
   rcases hv g e with h1 | h1
   · exact h.d4 g h1
   · exact ⟨by omega, by omega, by omega⟩
 have hb : w'.heap[p]? = _ := (hk p hp (fun e => (h.d4 p e).1 rfl)).trans h.box
 refine ⟨by simp [World.setCell, Array.getElem?_modify, hb], ?_, ?_, ?_, ?_, h.d1, h.d2, h.d3, d4, Or.inl h.sp, Or.inl h.sn, Or.inl h.ss, fun g e => ?_, fun k hk' => ?_⟩
 · exact own_block h.now fun g e => by
     have e := own_eq e
     rw [← e]
     exact (hq gn h.d1.symm).trans (hk gn hn (fun e => (h.d4 gn e).2.1 rfl))
 · exact own_block h.safe fun g e => by
     have e := own_eq e
     rw [← e]
     exact (hq gs h.d2.symm).trans (hk gs hss (fun e => (h.d4 gs e).2.2 rfl))
 · rw [List.length_append]
   exact own_block ho fun g e => hq g (d4 g e).1
 · have hl : cs.length = L.length * 2 := h.rows.1
   intro j hj
   have hj' : j < L.length ∨ j = L.length := by simp at hj; omega
   rcases hj' with hlt | rfl
   · obtain ⟨h1, y, h2, h3⟩ := h.elems j hlt
     refine ⟨?_, y, ?_, ?_⟩
     · rw [List.getElem?_append_left (by omega), h1, List.getElem_append_left hlt]
     · rw [List.getElem?_append_left (by omega), h2]
     · rw [List.getElem_append_left hlt]
       refine (h3.kept fun k hk' hl' => (hq k hk'.2.1).trans (hk k hl' hk'.2.2.2.2)).mono fun k hk' => ⟨Or.inl hk'.1, hk'.2.1, hk'.2.2.1, hk'.2.2.2.1, fun e => ?_⟩
       rcases hv k e with h4 | h4
       · exact hk'.2.2.2.2 h4
       · have := h.foot k hk'.1; omega
   · refine ⟨?_, u, ?_, ?_⟩
     · rw [List.getElem?_append_right (by omega), show 2 * L.length - cs.length = 0 by omega, List.getElem_append_right (Nat.le_refl _)]
       simp
     · rw [List.getElem?_append_right (by omega), show 2 * L.length + 1 - cs.length = 1 by omega]
       rfl
     · rw [List.getElem_append_right (Nat.le_refl _)]
       simp only [Nat.sub_self, List.getElem_cons_zero]
       refine (hu.kept fun k hk' _ => hq k (by omega)).mono fun k hk' => ⟨Or.inr ⟨hk'.1, hk'.2.1⟩, by omega, by omega, by omega, hk'.2.2⟩
 · rcases hv g e with h1 | h1
   · exact Or.inl (h.sw g h1)
   · exact Or.inr ⟨h1, (ho.lt g e).2⟩
 · rw [hz]
   rcases hk' with hk' | hk'
   · exact Nat.lt_of_lt_of_le (h.foot k hk') hs
   · exact hk'.2
end
theorem bad_of (d : Dk) (at_ : Int) (k : Nat) : badE d at_ k = if 0 ≤ at_ ∧ (0 : Int) ≤ (k : Int) ∧ (k : Int) ≤ (d.B.length : Int) - at_ then (if d.off = true then 13 else 0) else 1 := by
 unfold badE
 by_cases h : 0 ≤ at_ ∧ (0 : Int) ≤ (k : Int) ∧ (k : Int) ≤ (d.B.length : Int) - at_
 · rw [if_pos h, if_pos ⟨h.1, h.2.1, by omega, h.2.2⟩]
 · rw [if_neg h, if_neg (fun hx => h ⟨hx.1, hx.2.1, hx.2.2.2⟩)]
theorem write_end {R : Nat → Prop} {wR w W6 : World} {S S5 : Nat → Prop} {p gn gs nc sc a : Nat} {vw v : Value} {cs cs' : List Value} {d : Dk} {x : List UInt8} {ar : Bool} {ah : Int} (hr : Rep w S p gn gs nc sc d.B.length vw cs d.now d.B d.L d.off ar ah)
   (hp : ∀ k, R k → Rest S p gn gs vw k ∧ w.heap[k]? = wR.heap[k]?) (hok : d.Ok) (hb : 1 ≤ d.B.length ∧ d.B.length ≤ 4194304) (har : ArmR d ar ah) (ho : d.off = false) (ha : a + x.length ≤ d.B.length)
   (h6 : Rep W6 S5 p gn gs nc sc d.B.length v cs' (put1 d.now a x) d.B (d.L ++ [(a, x)]) d.off ar ah) (hk : Kept (Mut p gn gs vw) w W6) (hv : ∀ g, v.ownBlock = some g → vw.ownBlock = some g ∨ w.heap.size ≤ g) (h5 : ∀ k, S k → S5 k) (h5' : ∀ k, S5 k → S k ∨ w.heap.size ≤ k) :
   Calls Tryz.prog 117 #[.pointer (some ⟨p, 0, none⟩)] W6 fun y w' => y = .returned (er (stepE d)) ∧ DKr R wR w' S5 p (stepD { d with L := d.L ++ [(a, x)] }) ∧ Turn S S5 w w' := by
 have hst := step_dk (d := { d with L := d.L ++ [(a, x)] }) h6 ho har
 have hdl := stepD_L { d with L := d.L ++ [(a, x)] }
 refine hst.mono ?_
 rintro y w' ⟨rfl, ar', ah', h7, ha7, hk7⟩
 have hmm : ∀ k, Mut p gn gs v k → k < w.heap.size → Mut p gn gs vw k := fun k hm hl => by
   rcases hm with e | e | e | e
   · exact Or.inl e
   · exact Or.inr (Or.inl e)
   · exact Or.inr (Or.inr (Or.inl e))
   · rcases hv k e with h1 | h1
     · exact Or.inr (Or.inr (Or.inr h1))
     · omega
 have hms : ∀ k, Mut p gn gs vw k → S k := fun k hm => by
   rcases hm with e | e | e | e
   · rw [e]; exact hr.sp
   · rw [e]; exact hr.sn
   · rw [e]; exact hr.ss
   · exact hr.sw k e
 have hblk : ∀ k, k < w.heap.size → ¬ Mut p gn gs vw k → w'.heap[k]? = w.heap[k]? := fun k hl hn => (hk7.block k (Nat.lt_of_lt_of_le hl hk.size) (fun hm => hn (hmm k hm hl))).trans (hk.block k hl hn)
 refine ⟨rfl, ⟨gn, gs, nc, sc, v, cs', ar', ah', ?_, fun k hR => ?_, ⟨stepD_ok ?_, ?_⟩, ha7⟩, ⟨⟨hk7.os.trans hk.os, hk7.tape.trans hk.tape, hk7.output.trans hk.output, Nat.le_trans hk.size hk7.size, fun k hl hn => hblk k hl (fun hm => hn (hms k hm))⟩, h5'⟩⟩
 · rw [Dk.now, hdl.1, hdl.2]
   show Rep w' S5 p gn gs nc sc d.B.length v cs' (nowL d.B (d.L ++ [(a, x)])) d.B (d.L ++ [(a, x)]) _ ar' ah'
   rw [nowL_append]
   exact h7
 · obtain ⟨h1, h2⟩ := hp k hR
   have hl := hr.foot k h1.1
   refine ⟨⟨h5 k h1.1, h1.2.1, h1.2.2.1, h1.2.2.2.1, fun e => ?_⟩, (hblk k hl h1.not).trans h2⟩
   rcases hv k e with h3 | h3
   · exact h1.2.2.2.2 h3
   · omega
 · intro y hy
   rcases List.mem_append.1 hy with hy | hy
   · exact hok y hy
   · obtain rfl := List.mem_singleton.1 hy
     exact ha
 · rw [hdl.2]
   exact hb
set_option maxHeartbeats 4000000 in
theorem Write_any {R : Nat → Prop} {wR w : World} {S : Nat → Prop} {p : Nat} {d : Dk} (h : DKr R wR w S p d) (at_ : Int) (A : Option Addr) (k c : Nat) (x : List UInt8) (ha : inI at_) (hl : d.L.length < 100000) (hx : SlT w (Av w S) (.slice A k c) x) :
   Calls Tryz.prog 92 #[.pointer (some ⟨p, 0, none⟩), .int .i64 at_, .slice A k c] w fun r w' => ∃ S', r = .returned (er (putE d at_ x)) ∧ DKr R wR w' S' p (putD d at_ x) ∧ Turn S S' w w' := by
 have hd := h
 obtain ⟨gn, gs, nc, sc, vw, cs, ar, ah, hr, hp, ⟨hok, hb1, hb2⟩, har⟩ := h
 obtain ⟨hkx, hkc, hcm⟩ := hx.sl.len
 have hbad := bad_of d at_ x.length
 obtain ⟨-, -, -, c3, -, -, -⟩ := hr.cells
 have hkI : inI (k : Int) := by unfold inI; omega
 have HD := jI hd
 by_cases hin : 0 ≤ at_ ∧ (0 : Int) ≤ (k : Int) ∧ (k : Int) ≤ (d.B.length : Int) - at_
 · have hc := has_any hr at_ k ha hkI true (decide_eq_true hin).symm
   rw [hkx] at hin
   rw [if_pos hin] at hbad
   cases ho : d.off with
   | true =>
     rw [ho, if_pos rfl] at hbad
     have e1 : putE d at_ x = 13 := by unfold putE; rw [hbad]; rfl
     have e2 : putD d at_ x = d := by unfold putD; rw [hbad]; rfl
     rw [e1, e2]
     rw [ho] at c3
     have HC := jI hc
     clear hd hr hp hok hb1 hb2 har hkx hkc hcm hbad hin hc hkI hx ho e1 e2 ha
     go_enter Tryz.func92, Tryz.ntmps92
     go_wp2_with (go_at_call 90; go_must (refine HC.out.mono ?_; rintro y w1 ⟨rfl, rfl⟩))
     go_ret
     exact ⟨S, rfl, HD.out, Turn.refl _ _⟩
   | false =>
     obtain ⟨h1, -, h3⟩ := hin
     obtain ⟨a, rfl⟩ : ∃ a : Nat, at_ = (a : Int) := ⟨at_.toNat, by omega⟩
     rw [ho, if_neg (by simp)] at hbad
     have e1 : putE d (a : Int) x = stepE d := by unfold putE; rw [if_pos hbad]
     have e2 : putD d (a : Int) x = stepD { d with L := d.L ++ [(a, x)] } := by unfold putD; rw [if_pos hbad, Int.toNat_natCast]
     rw [e1, e2]
     have hax : a + x.length ≤ d.B.length := by omega
     obtain ⟨Aw, cw, rfl, -, -⟩ := own_form hr.rows
     obtain ⟨m, hm⟩ : ∃ m, m = d.L.length := ⟨_, rfl⟩
     obtain ⟨n, hn⟩ : ∃ n, n = d.B.length := ⟨_, rfl⟩
     have hend := fun (W6 : World) (S5 : Nat → Prop) (v : Value) (cs' : List Value) => write_end (S5 := S5) (W6 := W6) (v := v) (cs' := cs') (a := a) (x := x) hr hp hok ⟨hb1, hb2⟩ har ho hax
     obtain ⟨-, -, c2, -, -, -, -⟩ := hr.cells
     obtain ⟨i0, hi, hz0, hz1, hz2⟩ := info_parts info_w
     rw [← hm] at c2 hl
     rw [ho] at c3
     have HC := jI hc
     have HE := jI hend
     have HR := jI hr
     have HX := jI hx
     have HN := jI (jA hn (jA hm (jA hb2 (jA hax (jA hkx ho)))))
     have HI := jI (jA hi (jA hz0 (jA hz1 hz2)))
     have hC2 := jI c2
     have HPL := jI (hr.foot p hr.sp)
     have hCL := jI (CloneB_any w.drew _ A k c x hx (by omega))
     clear hd hr hp hok hb1 hb2 har hkx hkc hcm hbad hc hkI hx e1 e2 ha hend hn hm hi hz0 hz1 hz2 hax ho c2 h1 h3
     go_enter Tryz.func92, Tryz.ntmps92
     go_upto_region 5 with (go_at_call 90; go_must (refine HC.out.mono ?_; rintro y w1 ⟨rfl, rfl⟩))
     clear c3
     refine wp_region_held_drew (S := fun _ => True) (by kernel_rfl) trivial (fun hHeld => ?_)
     refine wpAnyH_take (i := 0) (oi := { dst := Option.some 19, op := Op.move (Operand.tmp 0), type := 40, pos := "disk.go:66", after := #[], guard := Option.none }) (v := .pointer (some ⟨p, 0, none⟩)) rfl (by kernel_rfl) (by kernel_rfl) (by kernel_rfl) (fun _ _ _ h => h) (Or.inl ⟨by rfl, ?_⟩) hHeld ?_
     · intro W hSw
       go_simp
     simp only [Act.put, qA, qB, qC]
     refine wpAnyH_take (i := 1) (oi := { dst := Option.some 20, op := Op.move (Operand.tmp 0), type := 40, pos := "disk.go:66", after := #[], guard := Option.none }) (v := .pointer (some ⟨p, 0, none⟩)) rfl (by kernel_rfl) (by kernel_rfl) (by kernel_rfl) (fun _ _ _ h => h) (Or.inl ⟨by rfl, ?_⟩) hHeld ?_
     · intro W hSw
       go_simp
     simp only [Act.put, qA, qB, qC]
     refine wpAnyH_take (i := 2) (oi := { dst := Option.some 21, op := Op.nilCheck (Operand.tmp 20), type := 0, pos := "disk.go:66", after := #[{ on := 1, ground := Ground.data }], guard := Option.none }) (v := .pointer (some ⟨p, 0, none⟩)) rfl (by kernel_rfl) (by kernel_rfl) (by kernel_rfl) (fun _ _ _ h => h) (Or.inl ⟨by rfl, ?_⟩) hHeld ?_
     · intro W hSw
       go_simp
     simp only [Act.put, qA, qB, qC]
     refine wpAnyH_take (i := 3) (oi := { dst := Option.some 22, op := Op.fieldAddr 107 (Operand.tmp 21) 2, type := 0, pos := "disk.go:66", after := #[{ on := 2, ground := Ground.data }], guard := Option.none }) (v := .pointer (some ⟨p, 2, none⟩)) rfl (by kernel_rfl) (by kernel_rfl) (by kernel_rfl) (fun _ _ _ h => h) (Or.inl ⟨by rfl, ?_⟩) hHeld ?_
     · intro W hSw
       go_simp
     simp only [Act.put, qA, qB, qC]
     refine wpAnyH_take (i := 5) (oi := { dst := Option.some 24, op := Op.move (Operand.tmp 1), type := 3, pos := "disk.go:66", after := #[], guard := Option.none }) (v := .int .i64 (a : Int)) rfl (by kernel_rfl) (by kernel_rfl) (by kernel_rfl) (fun _ _ _ h => h) (Or.inl ⟨by rfl, ?_⟩) hHeld ?_
     · intro W hSw
       go_simp
     simp only [Act.put, qA, qB, qC]
     refine wpAnyH_take (i := 6) (oi := { dst := Option.some 25, op := Op.move (Operand.tmp 2), type := 33, pos := "disk.go:66", after := #[], guard := Option.none }) (v := .slice A k c) rfl (by kernel_rfl) (by kernel_rfl) (by kernel_rfl) (fun _ _ _ h => h) (Or.inl ⟨by rfl, ?_⟩) hHeld ?_
     · intro W hSw
       go_simp
     simp only [Act.put, qA, qB, qC]
     refine wpAnyH_ready (rs := [4, 7]) (by kernel_rfl) (by simp) ?_
     refine AllReadyH.cons (o := { dst := Option.some 23, op := Op.load 105 (Operand.tmp 22), type := 105, pos := "disk.go:66", after := #[{ on := 3, ground := Ground.data }], guard := Option.none }) rfl (fun K hK => ?o1) (AllReadyH.cons (o := { dst := Option.some 26, op := Op.call { callee := Callee.value (Operand.func 116), args := #[Operand.tmp 25], argTypes := #[33] }, type := 33, pos := "disk.go:66", after := #[{ on := 6, ground := Ground.data }], guard := Option.none }) rfl (fun K hK => ?o2) AllReadyH.nil)
     case' o1 =>
       have c2 : w.drew.cell? ⟨p, 2, none⟩ = some (.slice Aw m cw) := hC2.out
       go_simp
       clear c2
       refine hK.out _ _ trivial (fun hHeld => ?_)
       clear hK K hHeld
       refine wpAnyH_ready (rs := [7]) (by kernel_rfl) (by simp) ?_
       refine AllReadyH.cons (o := { dst := Option.some 26, op := Op.call { callee := Callee.value (Operand.func 116), args := #[Operand.tmp 25], argTypes := #[33] }, type := 33, pos := "disk.go:66", after := #[{ on := 6, ground := Ground.data }], guard := Option.none }) rfl (fun K hK => ?_) AllReadyH.nil
       go_simp
       refine hCL.out.mono ?_
       rintro y w2 ⟨v1, rfl, ho1, hb2⟩
       refine hK.out _ _ trivial (fun hHeld => ?_)
       clear hK K hHeld
       obtain ⟨A1, c1, rfl, -, -⟩ := own_form ho1
       refine wpAnyH_ready (rs := [8]) (by kernel_rfl) (by simp) ?_
       refine AllReadyH.cons (o := { dst := Option.some 27, op := Op.build 110 #[(0, Operand.tmp 24), (1, Operand.tmp 26)], type := 110, pos := "disk.go:66", after := #[{ on := 5, ground := Ground.data }, { on := 7, ground := Ground.data }], guard := Option.none }) rfl (fun K hK => ?_) AllReadyH.nil
       go_simp
       refine hK.out _ _ trivial (fun hHeld => ?_)
       clear hK K hHeld
       refine wpAnyH_ready (rs := [9]) (by kernel_rfl) (by simp) ?_
       refine AllReadyH.cons (o := { dst := Option.some 28, op := Op.buildSlice 105 1 #[(0, Operand.tmp 27)], type := 105, pos := "disk.go:66", after := #[{ on := 8, ground := Ground.data }], guard := Option.none }) rfl (fun K hK => ?_) AllReadyH.nil
       go_simp
       refine hK.out _ _ trivial (fun hHeld => ?_)
       clear hK K hHeld
     case' o2 =>
       go_simp
       refine hCL.out.mono ?_
       rintro y w2 ⟨v1, rfl, ho1, hb2⟩
       refine hK.out _ _ trivial (fun hHeld => ?_)
       clear hK K hHeld
       obtain ⟨A1, c1, rfl, -, -⟩ := own_form ho1
       refine wpAnyH_ready (rs := [4, 8]) (by kernel_rfl) (by simp) ?_
       refine AllReadyH.cons (o := { dst := Option.some 23, op := Op.load 105 (Operand.tmp 22), type := 105, pos := "disk.go:66", after := #[{ on := 3, ground := Ground.data }], guard := Option.none }) rfl (fun K hK => ?p1) (AllReadyH.cons (o := { dst := Option.some 27, op := Op.build 110 #[(0, Operand.tmp 24), (1, Operand.tmp 26)], type := 110, pos := "disk.go:66", after := #[{ on := 5, ground := Ground.data }, { on := 7, ground := Ground.data }], guard := Option.none }) rfl (fun K hK => ?p2) AllReadyH.nil)
     case' p1 =>
       have c2 : w2.cell? ⟨p, 2, none⟩ = some (.slice Aw m cw) := (hb2.cell (p := ⟨p, 2, none⟩) HPL.out).trans hC2.out
       go_simp
       clear c2
       refine hK.out _ _ trivial (fun hHeld => ?_)
       clear hK K hHeld
       refine wpAnyH_ready (rs := [8]) (by kernel_rfl) (by simp) ?_
       refine AllReadyH.cons (o := { dst := Option.some 27, op := Op.build 110 #[(0, Operand.tmp 24), (1, Operand.tmp 26)], type := 110, pos := "disk.go:66", after := #[{ on := 5, ground := Ground.data }, { on := 7, ground := Ground.data }], guard := Option.none }) rfl (fun K hK => ?_) AllReadyH.nil
       go_simp
       refine hK.out _ _ trivial (fun hHeld => ?_)
       clear hK K hHeld
       refine wpAnyH_ready (rs := [9]) (by kernel_rfl) (by simp) ?_
       refine AllReadyH.cons (o := { dst := Option.some 28, op := Op.buildSlice 105 1 #[(0, Operand.tmp 27)], type := 105, pos := "disk.go:66", after := #[{ on := 8, ground := Ground.data }], guard := Option.none }) rfl (fun K hK => ?_) AllReadyH.nil
       go_simp
       refine hK.out _ _ trivial (fun hHeld => ?_)
       clear hK K hHeld
     case' p2 =>
       go_simp
       refine hK.out _ _ trivial (fun hHeld => ?_)
       clear hK K hHeld
       refine wpAnyH_ready (rs := [4, 9]) (by kernel_rfl) (by simp) ?_
       refine AllReadyH.cons (o := { dst := Option.some 23, op := Op.load 105 (Operand.tmp 22), type := 105, pos := "disk.go:66", after := #[{ on := 3, ground := Ground.data }], guard := Option.none }) rfl (fun K hK => ?q1) (AllReadyH.cons (o := { dst := Option.some 28, op := Op.buildSlice 105 1 #[(0, Operand.tmp 27)], type := 105, pos := "disk.go:66", after := #[{ on := 8, ground := Ground.data }], guard := Option.none }) rfl (fun K hK => ?q2) AllReadyH.nil)
     case' q1 =>
       have c2 : w2.cell? ⟨p, 2, none⟩ = some (.slice Aw m cw) := (hb2.cell (p := ⟨p, 2, none⟩) HPL.out).trans hC2.out
       go_simp
       clear c2
       refine hK.out _ _ trivial (fun hHeld => ?_)
       clear hK K hHeld
       refine wpAnyH_ready (rs := [9]) (by kernel_rfl) (by simp) ?_
       refine AllReadyH.cons (o := { dst := Option.some 28, op := Op.buildSlice 105 1 #[(0, Operand.tmp 27)], type := 105, pos := "disk.go:66", after := #[{ on := 8, ground := Ground.data }], guard := Option.none }) rfl (fun K hK => ?_) AllReadyH.nil
       go_simp
       refine hK.out _ _ trivial (fun hHeld => ?_)
       clear hK K hHeld
     case' q2 =>
       go_simp
       refine hK.out _ _ trivial (fun hHeld => ?_)
       clear hK K hHeld
       refine wpAnyH_ready (rs := [4]) (by kernel_rfl) (by simp) ?_
       refine AllReadyH.cons (o := { dst := Option.some 23, op := Op.load 105 (Operand.tmp 22), type := 105, pos := "disk.go:66", after := #[{ on := 3, ground := Ground.data }], guard := Option.none }) rfl (fun K hK => ?_) AllReadyH.nil
       have c2 : (w2.alloc (.cells #[.int .i64 (a : Int), .slice A1 k c1] 110)).cell? ⟨p, 2, none⟩ = some (.slice Aw m cw) := ((hb2.alloc hb2.size _).cell (p := ⟨p, 2, none⟩) HPL.out).trans hC2.out
       go_simp
       clear c2
       refine hK.out _ _ trivial (fun hHeld => ?_)
       clear hK K hHeld
     all_goals
       refine wpAnyH_ready (rs := [10]) (by kernel_rfl) (by simp) ?_
       refine AllReadyH.cons (o := { dst := Option.some 29, op := Op.call { callee := Callee.builtin Builtin.append, args := #[Operand.tmp 23, Operand.tmp 28], argTypes := #[105, 105] }, type := 105, pos := "disk.go:66", after := #[{ on := 4, ground := Ground.data }, { on := 9, ground := Ground.data }, { on := 7, ground := Ground.chain }], guard := Option.none }) rfl (fun K hK => ?_) AllReadyH.nil
       have ho1' := ho1.alloc (.cells #[.int .i64 (a : Int), .slice A1 k c1] 110)
       have hnew := heap_alloc_new w2 (.cells #[.int .i64 (a : Int), .slice A1 k c1] 110)
       have hb3 : Below w.heap.size w (w2.alloc (.cells #[.int .i64 (a : Int), .slice A1 k c1] 110)) := ((Below.refl _ _).drew.trans hb2).alloc hb2.size _
       have hz3 : (w2.alloc (.cells #[.int .i64 (a : Int), .slice A1 k c1] 110)).heap.size = w2.heap.size + 1 := World.size_alloc _ _
       generalize w2.alloc (.cells #[.int .i64 (a : Int), .slice A1 k c1] 110) = W3 at ho1' hnew hb3 hz3 ⊢
       have hsz2 : w.heap.size ≤ w2.heap.size := hb2.size
       refine step_wp rfl (wp_append_at (.tmp 23) (.tmp 28) 105 rfl 0 110 i0 _ 2 32 Tryz.underlying105 HI.out.1 HI.out.2.1 HI.out.2.2.1 HI.out.2.2.2 rfl (by omega) (.slice Aw m cw) m cs rfl (by have := (HR.out.more hb3).rows; rw [← HN.out.2.1] at this; exact this) ⟨w2.heap.size, 0, none⟩ 1 1 [.int .i64 (a : Int), .slice A1 k c1] rfl rfl ?_ ?_ (by simp only [maxLen]; omega) (by omega) (Nat.zero_le _) ?_)
       · intro j u hj
         rw [Lib.add_plain, Nat.zero_add, cell_of_row W3 w2.heap.size _ _ _ (0, 0) hnew]
         simpa using hj
       · intro u hu
         simp at hu
         rcases hu with rfl | rfl <;> rfl
       · intro v' w4 ho4 hg4 hv4
         refine hK.out _ _ trivial (fun hHeld => ?_)
         clear hK K hHeld
         obtain ⟨A4, c4, rfl, -, -⟩ := own_form ho4
         have hvl : ∀ g, (Value.slice Aw d.L.length cw).ownBlock = some g → g < w.heap.size := fun g e => HR.out.foot g (HR.out.sw g e)
         have hvm : (Value.slice Aw m cw).ownBlock = (Value.slice Aw d.L.length cw).ownBlock := by cases Aw <;> rfl
         rw [hvm] at hg4 hv4
         have hsz4 : w.heap.size ≤ w4.heap.size := Nat.le_trans hb3.size hg4.size
         have hblk : ∀ g, g < w.heap.size → (Value.slice Aw d.L.length cw).ownBlock ≠ some g → w4.heap[g]? = w.heap[g]? := fun g hl hn => (hg4.block g (Nat.lt_of_lt_of_le hl hb3.size) (fun e => hn e.symm)).trans (hb3.block g hl)
         have hv5 : ∀ g, (Value.slice A4 (m + 1) c4).ownBlock = some g → (Value.slice Aw d.L.length cw).ownBlock = some g ∨ w.heap.size ≤ g := fun g e => by
           rcases hv4 with h4 | h4
           · exact Or.inl (h4 ▸ e)
           · rw [h4] at e; injection e with e; right; omega
         have hu : SlT w4 (fun g => w.heap.size ≤ g ∧ g < w4.heap.size ∧ (Value.slice A4 (m + 1) c4).ownBlock ≠ some g) (.slice A1 k c1) x := by
           have h1 : SlT w2 (fun g => w.heap.size ≤ g ∧ g < w2.heap.size) (.slice A1 k c1) x := SlT.of_own (base := w.drew.heap.size) (e := 5) (by have := ho1; rw [HN.out.2.2.2.2.1] at this ⊢; exact this) _ (fun g e => ho1.lt g e)
           have h2 : SlT W3 (fun g => w.heap.size ≤ g ∧ g < w2.heap.size) (.slice A1 k c1) x := SlT.of_own (base := w.drew.heap.size) (e := 5) (by have := ho1'; rw [HN.out.2.2.2.2.1] at this ⊢; exact this) _ (fun g e => ho1.lt g e)
           refine (h2.kept fun g hg hl => hg4.block g hl (fun e => ?_)).mono fun g hg => ⟨hg.1, ?_, fun e => ?_⟩
           · have := hvl g e.symm; omega
           · have := hg4.size; omega
           · rcases hv4 with h4 | h4
             · have := hvl g (h4 ▸ e); omega
             · rw [h4] at e; injection e with e; omega
         have hrep := HR.out.push hsz4 hblk (v := .slice A4 (m + 1) c4) (at_ := a) (u := .slice A1 k c1) (x := x) (by have := ho4; rw [HN.out.2.1] at this ⊢; exact this) hv5 hu
         have hkp : Kept (Mut p gn gs (.slice Aw d.L.length cw)) w (w4.setCell ⟨p, 2, none⟩ (.slice A4 (m + 1) c4)) :=
           Kept.trans ⟨hg4.os.trans hb3.os, hg4.tape.trans hb3.tape, hg4.output.trans hb3.output, hsz4, fun g hl hn => hblk g hl (fun e => hn (Or.inr (Or.inr (Or.inr e))))⟩ (kept_set (Or.inl rfl) _)
         have hp4 : w4.heap[p]? = w.heap[p]? := hblk p HPL.out (fun e => (HR.out.d4 p e).1 rfl)
         have y2 : w4.cell? ⟨p, 2, none⟩ = some (.slice Aw m cw) := (World.cell?_of_block (w := w) (a := ⟨p, 2, none⟩) hp4).trans hC2.out
         have f2 : w4.frozen? ⟨p, 2, none⟩ = false := (World.frozen?_of_block (w := w) (a := ⟨p, 2, none⟩) hp4).trans (HR.out.cells.2.2.2.2.2.2 2)
         have RP := jI hrep
         have KP := jI (jA hkp (jA hv5 hsz4))
         clear ho4 hg4 hv4 hvl hvm hblk hv5 hu hrep hkp hp4 hsz4 ho1 ho1' hnew hb3 hz3 hsz2 hb2
         refine wpAnyH_ready (rs := [11]) (by kernel_rfl) (by simp) ?_
         refine AllReadyH.cons (o := { dst := Option.some 30, op := Op.nilCheck (Operand.tmp 19), type := 0, pos := "disk.go:66", after := #[{ on := 0, ground := Ground.data }, { on := 0, ground := Ground.phase }, { on := 1, ground := Ground.phase }, { on := 2, ground := Ground.phase }, { on := 3, ground := Ground.phase }, { on := 4, ground := Ground.phase }, { on := 5, ground := Ground.phase }, { on := 6, ground := Ground.phase }, { on := 7, ground := Ground.phase }, { on := 8, ground := Ground.phase }, { on := 9, ground := Ground.phase }, { on := 10, ground := Ground.phase }], guard := Option.none }) rfl (fun K hK => ?_) AllReadyH.nil
         go_simp
         refine hK.out _ _ trivial (fun hHeld => ?_)
         clear hK K hHeld
         refine wpAnyH_ready (rs := [12]) (by kernel_rfl) (by simp) ?_
         refine AllReadyH.cons (o := { dst := Option.some 31, op := Op.fieldAddr 107 (Operand.tmp 30) 2, type := 0, pos := "disk.go:66", after := #[{ on := 11, ground := Ground.data }, { on := 0, ground := Ground.phase }, { on := 1, ground := Ground.phase }, { on := 2, ground := Ground.phase }, { on := 3, ground := Ground.phase }, { on := 4, ground := Ground.phase }, { on := 5, ground := Ground.phase }, { on := 6, ground := Ground.phase }, { on := 7, ground := Ground.phase }, { on := 8, ground := Ground.phase }, { on := 9, ground := Ground.phase }, { on := 10, ground := Ground.phase }], guard := Option.none }) rfl (fun K hK => ?_) AllReadyH.nil
         go_simp
         refine hK.out _ _ trivial (fun hHeld => ?_)
         clear hK K hHeld
         refine wpAnyH_ready (rs := [13]) (by kernel_rfl) (by simp) ?_
         refine AllReadyH.cons (o := { dst := Option.none, op := Op.store 105 (Operand.tmp 31) (Operand.tmp 29), type := 0, pos := "disk.go:66", after := #[{ on := 12, ground := Ground.data }, { on := 10, ground := Ground.data }, { on := 10, ground := Ground.chain }, { on := 0, ground := Ground.phase }, { on := 1, ground := Ground.phase }, { on := 2, ground := Ground.phase }, { on := 3, ground := Ground.phase }, { on := 4, ground := Ground.phase }, { on := 5, ground := Ground.phase }, { on := 6, ground := Ground.phase }, { on := 7, ground := Ground.phase }, { on := 8, ground := Ground.phase }, { on := 9, ground := Ground.phase }, { on := 10, ground := Ground.phase }], guard := Option.none }) rfl (fun K hK => ?_) AllReadyH.nil
         go_simp
         refine hK.out _ _ trivial (fun hHeld => ?_)
         clear hK K hHeld y2 f2
         refine wpAnyH_done (by kernel_rfl) ?_ _
         have hx5 : SlT (w4.setCell ⟨p, 2, none⟩ (.slice A4 (m + 1) c4)) (Av w S) (.slice A k c) x := HX.out.kept fun g hg hl => KP.out.1.block g hl (fun hm => hg.2 (by
           rcases hm with e | e | e | e
           · rw [e]; exact HR.out.sp
           · rw [e]; exact HR.out.sn
           · rw [e]; exact HR.out.ss
           · exact HR.out.sw g e))
         generalize w4.setCell ⟨p, 2, none⟩ (.slice A4 (m + 1) c4) = W5 at RP KP hx5 ⊢
         obtain ⟨c0, -, -, -, -, -, -⟩ := RP.out.cells
         rw [← HN.out.1] at c0
         have hnl := HN.out.1
         have hcap := (own_cap RP.out.now)
         obtain ⟨hnn, hcn⟩ := hcap
         have hax : a + k ≤ n := by have := HN.out.2.2.2.1; have := HN.out.2.2.2.2.1; omega
         have hal : a ≤ n := by omega
         have HSRC := jI (sl_src (w' := W5) hx5 HN.out.2.2.2.2.1 (fun _ _ => rfl))
         have hnc : n ≤ nc := by omega
         have fin2 : ∀ (W6 : World), W6.ownsRow 0 5 1 (.slice (some ⟨gn, 0, none⟩) n nc) n (splice (Lib.byteCells d.now) a (Lib.byteCells x)) → W5.grownBy W6 (some gn) →
             Calls Tryz.prog 117 #[.pointer (some ⟨p, 0, none⟩)] W6 fun y w' => y = .returned (er (stepE d)) ∧ DKr R wR w' (fun g => S g ∨ (w.heap.size ≤ g ∧ g < w4.heap.size)) p (stepD { d with L := d.L ++ [(a, x)] }) ∧ Turn S (fun g => S g ∨ (w.heap.size ≤ g ∧ g < w4.heap.size)) w w' := by
           intro W6 ho hg
           unfold Lib.byteCells at ho
           rw [splice_put, HN.out.1] at ho
           refine HE.out W6 _ _ _ (RP.out.putNow ho hg) (KP.out.1.trans (kept_grown (Or.inr (Or.inl rfl)) hg)) KP.out.2.1 (fun g => Or.inl) (fun g hx => ?_)
           rcases hx with hx | hx
           · exact Or.inl hx
           · exact Or.inr hx.1
         have FIN := jI fin2
         have HNW := jI RP.out.now
         rw [← HN.out.1] at HNW
         clear fin2 hnl hx5 RP KP
         by_cases hca : nc = a
         all_goals
           go_upto_region 7 with (with_reducible refine wpList_copy_rowE rfl (.tmp 37) (.tmp 38) 33 33 rfl 5 Tryz.underlying33 size_u8 0 gn n nc (Lib.byteCells d.now) HNW.out _ _ _ _ _ _ rfl rfl a (Lib.byteCells x) ?_ ?_ ?_ ?_ ?_)
           · rw [byteCells_len, ← HN.out.2.2.2.2.1]; exact (Nat.min_eq_left (by omega)).symm
           · intro h0
             have h0' : 0 < k := by rw [byteCells_len, ← HN.out.2.2.2.2.1] at h0; exact h0
             obtain ⟨ad, e, hc'⟩ := HSRC.out h0
             first
               | (exfalso; omega)
               | exact ⟨rfl, ad, e, hc'⟩
               | exact ⟨ad, e, hc'⟩
           · rw [byteCells_len, ← HN.out.2.2.2.2.1]; exact hax
           · exact byteCells_one _
           · intro W6 ho hg
             have HST := jI (FIN.out W6 (by first | exact ho | (rw [hca]; exact ho)) hg)
             clear ho hg
             go_wp2_with (go_at_call 117; go_must (refine HST.out.mono ?_; rintro y w7 ⟨rfl, h7⟩; have H7 := jI h7; clear h7))
             go_ret
             exact ⟨_, rfl, H7.out.1, H7.out.2⟩
 · have hc := has_any hr at_ k ha hkI false (decide_eq_false hin).symm
   rw [hkx] at hin
   rw [if_neg hin] at hbad
   have e1 : putE d at_ x = 1 := by unfold putE; rw [hbad]; rfl
   have e2 : putD d at_ x = d := by unfold putD; rw [hbad]; rfl
   rw [e1, e2]
   have HC := jI hc
   clear hd hr hp hok hb1 hb2 har hkx hkc hcm hbad hin hc hkI hx e1 e2 ha c3
   go_enter Tryz.func92, Tryz.ntmps92
   go_wp2_with (go_at_call 90; go_must (refine HC.out.mono ?_; rintro y w1 ⟨rfl, rfl⟩))
   go_ret
   exact ⟨S, rfl, HD.out, Turn.refl _ _⟩
end
section
theorem NewNo_any (n : Int) (w : World) (hn : inI n) (h : n < 1 ∨ 4194304 < n) : Calls Tryz.prog 34 #[.int .i64 n] w fun x w' => x = .returned (.tuple #[.pointer none, er 1]) ∧ Below w.heap.size w w' := by
 clear hn
 rcases h with h | h
 · go_enter Tryz.func34, Tryz.ntmps34
   go_wp2
   go_ret2
   exact ⟨rfl, Below.refl _ _⟩
 · have h1 : ¬ n < 1 := by omega
   go_enter Tryz.func34, Tryz.ntmps34
   go_wp2
   go_ret2
   exact ⟨rfl, Below.refl _ _⟩
def inst (R : Nat → Prop) (wR : World) : ConD where
 DK w S p d := DKr R wR w S p d
 R := R
 wR := wR
 pin := fun ⟨_, _, _, _, _, _, _, _, _, hp, _, _⟩ k hk => ⟨(hp k hk).1.1, (hp k hk).2⟩
 frame := fun ⟨gn, gs, nc, sc, vw, cs, ar, ah, hr, hp, hb, ha⟩ hk =>
   ⟨gn, gs, nc, sc, vw, cs, ar, ah, ⟨(hk _ hr.sp).trans hr.box, own_block hr.now fun g e => hk g (own_eq e ▸ hr.sn), own_block hr.safe fun g e => hk g (own_eq e ▸ hr.ss), own_block hr.rows fun g e => hk g (hr.sw g e),
     hr.elems.kept fun k hk' _ => hk k hk'.1, hr.d1, hr.d2, hr.d3, hr.d4, hr.sp, hr.sn, hr.ss, hr.sw, fun k hs => by
       have h1 := hk k hs
       have h2 := hr.foot k hs
       rcases Nat.lt_or_ge k _ with h3 | h3
       · exact h3
       · rw [Array.getElem?_eq_none h3, Array.getElem?_eq_getElem h2] at h1
         cases h1⟩, fun k hR => ⟨(hp k hR).1, (hk k (hp k hR).1.1).trans (hp k hR).2⟩, hb, ha⟩
 foot := fun ⟨_, _, _, _, _, _, _, _, hr, _⟩ => hr.foot
 ok := fun ⟨_, _, _, _, _, _, _, _, _, _, hb, _⟩ => hb
 cNewNo := NewNo_any
 cRead := fun w S p d at_ n ⟨_, _, _, _, _, _, _, _, hr, _, ⟨_, _, hb⟩, _⟩ ha hn => by
   have h := DRead_any hr hb at_ n ha hn
   have e1 : badE d at_ n = if 0 ≤ at_ ∧ 0 ≤ n ∧ n ≤ (d.B.length : Int) - at_ then (if d.off = true then 13 else 0) else 1 := by
     unfold badE
     by_cases hc : 0 ≤ at_ ∧ 0 ≤ n ∧ n ≤ (d.B.length : Int) - at_
     · rw [if_pos hc, if_pos ⟨hc.1, hc.2.1, by omega, hc.2.2⟩]
     · rw [if_neg hc, if_neg (fun hx => hc ⟨hx.1, hx.2.1, hx.2.2.2⟩)]
   have e2 : readB d at_ n = if 0 ≤ at_ ∧ 0 ≤ n ∧ n ≤ (d.B.length : Int) - at_ ∧ d.off = false then (d.now.drop at_.toNat).take n.toNat else [] := by
     unfold readB
     rw [e1]
     by_cases hc : 0 ≤ at_ ∧ 0 ≤ n ∧ n ≤ (d.B.length : Int) - at_
     · rw [if_pos hc]
       cases ho : d.off with
       | true => simp
       | false => simp [hc.1, hc.2.1, hc.2.2]
     · rw [if_neg hc, if_neg (by omega), if_neg (fun hx => hc ⟨hx.1, hx.2.1, hx.2.2.1⟩)]
   rw [e1, e2]
   exact h
 cWrite := fun _ _ _ _ at_ A n c x h ha hl hx => Write_any h at_ A n c x ha hl hx
 cSync := fun _ _ _ _ h => Sync_any h
 cStart := fun _ _ _ _ A n c keep h hl hk hi => Start_any h A n c keep hl hk hi
def con (w0 : World) : ConD := inst (fun _ => False) w0
theorem conB {Q : ConD → Prop} (hQ : ∀ R wR, Q (inst R wR)) (w0 : World) : ConB Q (con w0) where
 cNew n w h1 h2 := DNew_any (fun _ => False) w0 (fun _ h => h) n w h1 h2
end
section
section
variable {w w' : World} {S : Nat → Prop} {p gn gs nc sc n : Nat} {vw : Value} {cs : List Value} {nowb safeb : List UInt8} {L : List (Nat × List UInt8)} {off ar : Bool} {ah : Int}
theorem Size_any (h : Rep w S p gn gs nc sc n vw cs nowb safeb L off ar ah) :
   Calls Tryz.prog 36 #[.pointer (some ⟨p, 0, none⟩)] w fun x w' => x = .returned (.int .i64 (n : Int)) ∧ w = w' := by
 obtain ⟨c0, -, -, -, -, -, -⟩ := h.cells
 clear h
 go_enter Tryz.func36, Tryz.ntmps36
 go_wp2
 go_ret
 exact ⟨rfl, rfl⟩
theorem Down_any (h : Rep w S p gn gs nc sc n vw cs nowb safeb L off ar ah) :
   Calls Tryz.prog 21 #[.pointer (some ⟨p, 0, none⟩)] w fun x w' => x = .returned (.bool off) ∧ w = w' := by
 obtain ⟨-, -, -, c3, -, -, -⟩ := h.cells
 clear h
 cases off with
 | true =>
   go_enter Tryz.func21, Tryz.ntmps21
   go_wp2
   go_ret
   exact ⟨rfl, rfl⟩
 | false =>
   go_enter Tryz.func21, Tryz.ntmps21
   go_wp2
   go_ret
   exact ⟨rfl, rfl⟩
end
theorem Arm_any {R : Nat → Prop} {wR w : World} {S : Nat → Prop} {p : Nat} {d : Dk} (h : DKr R wR w S p d) (n : Int) (hn : inI n) :
   Calls Tryz.prog 20 #[.pointer (some ⟨p, 0, none⟩), .int .i64 n] w fun r w' => ∃ S', r = .returned (er (armE n)) ∧ DKr R wR w' S' p (armD d n) ∧ Turn S S' w w' := by
 have hd := h
 obtain ⟨gn, gs, nc, sc, vw, cs, ar, ah, hr, hp, hb, ha⟩ := h
 obtain ⟨-, -, -, -, c4, c5, cf⟩ := hr.cells
 have f4 := cf 4
 have f5 := cf 5
 clear cf
 unfold inI at hn
 obtain ⟨hn1, hn2⟩ := hn
 by_cases h0 : n < 0
 · have e1 : armE n = 1 := by unfold armE; rw [if_pos h0]
   have e2 : armD d n = d := by unfold armD; rw [if_pos h0]
   rw [e1, e2]
   have HD := jI hd
   clear hd hr hp hb ha e1 e2
   go_enter Tryz.func20, Tryz.ntmps20
   go_wp2
   go_ret
   exact ⟨S, rfl, HD.out, Turn.refl _ _⟩
 · have e1 : armE n = 0 := by unfold armE; rw [if_neg h0]
   have e2 : armD d n = { d with armed := n } := by unfold armD; rw [if_neg h0]
   rw [e1, e2, er_zero]
   have hk : Kept (Mut p gn gs vw) w ((w.setCell ⟨p, 4, none⟩ (.bool true)).setCell ⟨p, 5, none⟩ (.int .i64 n)) := (kept_set (Or.inl rfl) _).trans (kept_set (Or.inl rfl) _)
   have HF := jI (show DKr R wR ((w.setCell ⟨p, 4, none⟩ (.bool true)).setCell ⟨p, 5, none⟩ (.int .i64 n)) S p { d with armed := n } ∧ Turn S S w ((w.setCell ⟨p, 4, none⟩ (.bool true)).setCell ⟨p, 5, none⟩ (.int .i64 n)) from
     ⟨⟨gn, gs, nc, sc, vw, cs, true, n, (hr.set4 true).set5 n, pins_go hp hr.foot hk, hb, ⟨hn2, fun _ => ⟨(decide_eq_true (by show (0 : Int) ≤ n; omega)).symm, fun _ => rfl⟩⟩⟩, mut_turn hr hk⟩)
   clear hd hr hp hb ha e1 e2 hk
   go_enter Tryz.func20, Tryz.ntmps20
   go_wp2
   go_ret
   exact ⟨rfl, S, HF.out.1, HF.out.2⟩
theorem instE (R : Nat → Prop) (wR : World) : ConE (inst R wR) where
 cSize _ _ _ _ := fun ⟨_, _, _, _, _, _, _, _, hr, _⟩ => (Size_any hr).mono fun _ _ ⟨hx, hw⟩ => ⟨hx, hw ▸ Below.refl _ _⟩
 cDown _ _ _ _ := fun ⟨_, _, _, _, _, _, _, _, hr, _⟩ => (Down_any hr).mono fun _ _ ⟨hx, hw⟩ => ⟨hx, hw ▸ Below.refl _ _⟩
 cArm _ _ _ _ n h hn := Arm_any h n hn
theorem conBE (w0 : World) : ConB ConE (con w0) := conB instE w0
theorem conE (w0 : World) : ConE (con w0) := instE _ _
end
end Go.Proofs.YtncaefocijainaaGreatDoor.pk
