import Derived.Test.YtncaefocijainaaGreatDoorG44
import Derived.Test.YtncaefocijainaaGreatDoorG46
import Derived.Test.YtncaefocijainaaGreatDoorG20
import Derived.Test.YtncaefocijainaaGreatDoorG21
import Derived.Test.YtncaefocijainaaGreatDoorG17
namespace Go.Proofs.YtncaefocijainaaGreatDoor.pk
section
open Go Go.RowKit
set_option maxRecDepth 100000
section
variable {C : ConD} {w : World} {S : Nat → Prop} {b p : Nat} {Q : Bool → Nat} {d : Dk} {k : Km} {q : Pl}
structure InS (w : World) (T : Nat → Prop) (s : St) (q : Pl) : Prop where
 rows : Rws w T s q
 eok : ∀ e ∈ s.log.l, e.ok
 cok : ∀ z ∈ s.conf, inI z
 small : SmallE 200 25663 s.log.l
 conf : s.conf.length ≤ 1000
 snap : s.snap.length ≤ 2000000
 base : inI s.log.base
 term : inI s.log.term
theorem InS.move {w w' : World} {T T' : Nat → Prop} {s : St} {q : Pl} (h : InS w T s q) (hk : ∀ k, T k → k < w.heap.size → w'.heap[k]? = w.heap[k]?) (ht : ∀ k, T k → T' k) : InS w' T' s q :=
 ⟨h.rows.move hk ht, h.eok, h.cok, h.small, h.conf, h.snap, h.base, h.term⟩
theorem InS.ents {w : World} {T : Nat → Prop} {s : St} {q : Pl} (h : InS w T s q) (hT : ∀ k, T k → k < w.heap.size) : Ents w (.slice q.AL q.nL q.cL) s.log.l := ⟨h.rows.ents.move (fun _ _ _ => rfl) hT, h.eok⟩
theorem InS.ints {w : World} {T : Nat → Prop} {s : St} {q : Pl} (h : InS w T s q) (hT : ∀ k, T k → k < w.heap.size) : Ints w (.slice q.AC q.nC q.cC) s.conf := ⟨h.rows.conf.mono hT, h.cok⟩
theorem InS.bys {w : World} {T : Nat → Prop} {s : St} {q : Pl} (h : InS w T s q) (hT : ∀ k, T k → k < w.heap.size) : Bys w (.slice q.AS q.nS q.cS) s.snap := h.rows.snap.mono hT
theorem InS.inp {w : World} {T : Nat → Prop} {s : St} {q : Pl} (h : InS w T s q) (hT : ∀ k, T k → k < w.heap.size) : Inp s.log q.AL q.nL q.cL w := ⟨h.ents hT, h.base, h.term, by have := h.small.1; omega, fun e he => by have := h.small.2 e he; omega⟩
theorem layX_k (d : Dk) (k : Km) (o : Bool) (x : List UInt8) : (layX d k o x).2.1.saves = k.saves ∧ (layX d k o x).2.1.kept = k.kept ∧ (layX d k o x).2.1.dead = k.dead := by
 unfold layX
 by_cases h : o = k.on
 · rw [if_pos h]; exact ⟨rfl, rfl, rfl⟩
 · rw [if_neg h]
   by_cases h2 : (resS d (k.T o)).2 = 0
   · rw [if_pos h2]; exact ⟨rfl, rfl, rfl⟩
   · rw [if_neg h2]; exact ⟨rfl, rfl, rfl⟩
def SavP (C : ConD) (w : World) (S : Nat → Prop) (b : Nat) (Q : Bool → Nat) (p : Nat) (r : Dk × Km × Nat) (e : Ending) (w' : World) : Prop := ∃ S' q', e = .returned (er r.2.2) ∧ KB C w' S' b Q p r.1 r.2.1 q' ∧ Turn (KS S b Q) (KS S' b Q) w w'
theorem only_trans {p : Nat} {a c e : World} (h : OnlyP p a c) (h2 : OnlyP p c e) : OnlyP p a e := ⟨h2.os.trans h.os, h2.tape.trans h.tape, h2.output.trans h.output, h2.size.trans h.size, fun k hk => (h2.block k hk).trans (h.block k hk)⟩
theorem save_end {w W1 w7 w8 V8 w9 F1 F2 F3 : World} {S8 : Nat → Prop} {dz : Dk} {kz : Km} {s : St} {v v1 : Pl} {o : Bool} (hb1 : Below w.heap.size w W1) (h7 : Below W1.heap.size W1 w7) (h8 : KB C w8 S8 b Q p dz kz q) (ht : Turn (KS S b Q) (KS S8 b Q) w7 w8) (hz : kz.saves = k.saves ∧ kz.kept = k.kept ∧ kz.dead = k.dead)
   (hr : saveR d k s = (dz, finK kz o 0 s, 0)) (hv : w8.heap.size ≤ V8.heap.size) (hf : Fresh V8 w9 s v1) (hb9 : Below w8.heap.size w8 w9) (o1 : OnlyP b w9 F1) (o2 : OnlyP b F1 F2) (o3 : OnlyP b F2 F3) (hB : F3.heap[b]? = some (.cells (kpC { { { kz with on := o } with saves := k.saves + 1 } with kept := s } v1 Q) 75 (0, 0))) (hi : InS W1 (Av W1 (KS S b Q)) s v) :
   SavP C w S b Q p (saveR d k s) (.returned .nilIface) F3 := by
 have h9 := h8.more hb9
 have ho := only_trans (only_trans o1 o2) o3
 have hb := h8.lt
 have hrw : Rws F3 (Av F3 (KS S8 b Q)) s v1 := (show Rws w9 (fun x => V8.heap.size ≤ x ∧ x < w9.heap.size) s v1 from ⟨hf.ents, hf.conf, hf.snap⟩).move (fun x hx _ => ho.block x (by have := hx.1; omega)) fun x hx => ⟨by rw [ho.size]; exact hx.2, fun e => by have := h8.foot x e; have := hx.1; omega⟩
 have hu := h9.upd (k' := { { { kz with on := o } with saves := k.saves + 1 } with kept := s }) ho hB rfl hrw ⟨hi.eok, hi.cok⟩
 rw [hr]
 refine ⟨S8, v1, rfl, ?_, (Turn.of_below (hb1.trans (h7.mono hb1.size))).trans (ht.trans ((Turn.of_below hb9).trans hu.2))⟩
 have hfk : finK kz o 0 s = { { { kz with on := o } with saves := k.saves + 1 } with kept := s } := by
   unfold finK
   rw [if_pos rfl, hz.1]
 rw [hfk]
 exact hu.1
set_option maxHeartbeats 32000000 in
theorem Save_live (h : KB C w S b Q p d k q) (hd : k.dead = 0) (hc : Calm d k) (hsv : k.saves ≤ 1099511627775) (hs : StdP w) (s : St) (v : Pl) (hi : InS w (Av w (KS S b Q)) s v) :
   Calls Tryz.prog 7 #[.pointer (some ⟨b, 0, none⟩), stV s v] w (SavP C w S b Q p (saveR d k s)) := by
 obtain ⟨W1, g, hW1, hg, hb1, hq0, hsz⟩ := one_box w (.cells #[.int .i64 s.term, .int .i64 s.vote, .int .i64 s.log.base, .int .i64 s.log.term, .slice v.AL v.nL v.cL, .slice v.AC v.nC v.cC, .slice v.AS v.nS v.cS] 35)
 have h1 := h.more hb1
 have hi1 : InS W1 (Av W1 (KS S b Q)) s v := hi.move (fun x _ hx => hb1.block x hx) fun x hx => ⟨Nat.lt_of_lt_of_le hx.1 hb1.size, hx.2⟩
 have hc15 : W1.cell? ⟨b, 15, none⟩ = some .nilIface := (h1.cell 15).trans (by rw [← er_zero, ← hd]; rfl)
 have hg0 : g ≠ b := by have := h.lt; omega
 have hAv : ∀ W x, Av W (KS S b Q) x → x < W.heap.size := fun _ _ hx => hx.1
 obtain ⟨bs, hbs⟩ : ∃ bs, bs = sameS s k.kept := ⟨_, rfl⟩
 have RB := fun d os => below_regrown W1 d os
 have kA : ∀ d os, Calls Tryz.prog 27 #[stV s v, stV k.kept q] (Sort.grow (redrawn W1 d) os) fun e w'' => e = .returned (.bool bs) ∧ ∃ p : Regrown, w'' = Sort.grow (redrawn W1 p.d) p.os := fun d os => by
   have hr := (h1.more (RB d os)).rows
   have hx := hi1.move (T' := Av (Sort.grow (redrawn W1 d) os) (KS S b Q)) (fun x _ hx => (RB d os).block x hx) fun x hx => ⟨Nat.lt_of_lt_of_le hx.1 (RB d os).size, hx.2⟩
   rw [hbs]
   exact Calls.regrown_of (same_any s v k.kept q _ (hx.ents (hAv _)) (hx.ints (hAv _)) (hx.bys (hAv _)) ⟨hr.ents.move (fun _ _ _ => rfl) (hAv _), h1.ok.1⟩ ⟨hr.conf.mono (hAv _), h1.ok.2⟩ (hr.snap.mono (hAv _)))
 obtain ⟨x0, x1, x2, x3, x4, x5, x6⟩ := cells7 hq0
 have y0 : W1.cell? ⟨b, 8, none⟩ = some (.int .i64 k.kept.term) := h1.cell 8
 have y1 : W1.cell? ⟨b, 9, none⟩ = some (.int .i64 k.kept.vote) := h1.cell 9
 have y2 : W1.cell? ⟨b, 10, none⟩ = some (.int .i64 k.kept.log.base) := h1.cell 10
 have y3 : W1.cell? ⟨b, 11, none⟩ = some (.int .i64 k.kept.log.term) := h1.cell 11
 have y4 : W1.cell? ⟨b, 12, none⟩ = some (.slice q.AL q.nL q.cL) := h1.cell 12
 have y5 : W1.cell? ⟨b, 13, none⟩ = some (.slice q.AC q.nC q.cC) := h1.cell 13
 have y6 : W1.cell? ⟨b, 14, none⟩ = some (.slice q.AS q.nS q.cS) := h1.cell 14
 replace x0 := fun d os => cell_regrown x0 d os
 replace x1 := fun d os => cell_regrown x1 d os
 replace x2 := fun d os => cell_regrown x2 d os
 replace x3 := fun d os => cell_regrown x3 d os
 replace x4 := fun d os => cell_regrown x4 d os
 replace x5 := fun d os => cell_regrown x5 d os
 replace x6 := fun d os => cell_regrown x6 d os
 replace y0 := fun d os => cell_regrown y0 d os
 replace y1 := fun d os => cell_regrown y1 d os
 replace y2 := fun d os => cell_regrown y2 d os
 replace y3 := fun d os => cell_regrown y3 d os
 replace y4 := fun d os => cell_regrown y4 d os
 replace y5 := fun d os => cell_regrown y5 d os
 replace y6 := fun d os => cell_regrown y6 d os
 have HE := jI (jA h1 (jA hi1 (jA hb1 (jA hs (jA hc (jA hd hsv))))))
 have HW := jI (jA hW1 hg)
 have HQ := jI (jA hq0 hg0)
 have HGW := jI (show ¬ KS S b Q g from fun e => by have := h.foot g e; omega)
 have HBS := jI hbs
 unfold stV at kA
 clear h hd hc hsv hs hi hW1 hg hb1 hq0 hsz h1 hi1 hg0 hAv hbs RB
 unfold stV
 go_enter Tryz.func7, Tryz.ntmps7
 go_upto_region 1 with fail
 rw [← HW.out.1]
 try rw [← HW.out.2]
 go_upto_region 5 with fail
 refine wp_region_quiet_below (by kernel_rfl) (by kernel_rfl) ?_
 go_big_quiet_step (fail)
 go_big_quiet_step (fail)
 go_big_quiet_step (fail)
 go_big_quiet_step (fail)
 go_big_quiet_step (fail)
 go_big_quiet_step (exact kA _ _)
 go_big_quiet_step (fail)
 refine wpQuiet_nil ?_
 rintro W ⟨⟨dr, osr⟩, rfl⟩
 obtain ⟨V, hV⟩ : ∃ V, V = Sort.grow (redrawn W1 dr) osr := ⟨_, rfl⟩
 have hbV := below_regrown W1 dr osr
 rw [← hV] at hbV ⊢
 have HV := jI hbV
 clear hV hbV kA x0 x1 x2 x3 x4 x5 x6 y0 y1 y2 y3 y4 y5 y6 hc15
 cases hbv : bs with
 | true =>
   subst hbv
   go_wp2_with fail
   go_ret
   have hr : saveR d k s = (d, k, 0) := by
     unfold saveR
     rw [if_neg (by rw [HE.out.2.2.2.2.2.1]; decide), if_pos HBS.out.symm]
   rw [hr]
   exact ⟨S, q, rfl, HE.out.1.more HV.out, Turn.of_below (HE.out.2.2.1.trans (HV.out.mono HE.out.2.2.1.size))⟩
 | false =>
   subst hbv
   have hgV : V.heap[g]? = some (.cells #[.int .i64 s.term, .int .i64 s.vote, .int .i64 s.log.base, .int .i64 s.log.term, .slice v.AL v.nL v.cL, .slice v.AC v.nC v.cC, .slice v.AS v.nS v.cS] 35 (0, 0)) := (HV.out.block g (obj_lt HQ.out.1)).trans HQ.out.1
   have hiV : InS V (Av V (KS S b Q)) s v := HE.out.2.1.move (fun x _ hx => HV.out.block x hx) fun x hx => ⟨Nat.lt_of_lt_of_le hx.1 HV.out.size, hx.2⟩
   have hAv : ∀ x, Av V (KS S b Q) x → x < V.heap.size := fun _ hx => hx.1
   have hsV : StdP V := HE.out.2.2.2.1.more (HE.out.2.2.1.trans (HV.out.mono HE.out.2.2.1.size))
   obtain ⟨mb, hmb⟩ : ∃ mb, mb = mayS s := ⟨_, rfl⟩
   have CM := smay_any s v V hsV (hiV.inp hAv) (hiV.ints hAv) (hiV.bys hAv) ⟨by have := hiV.small.1; omega, hiV.small.2⟩ hiV.snap
   rw [← hmb] at CM
   unfold stV at CM
   have CM := jI CM
   have HG := jI hgV
   have HMB := jI hmb
   obtain ⟨z0, z1, z2, z3, z4, z5, z6⟩ := cells7 hgV
   clear hgV hiV hAv hsV hmb
   cases hmv : mb with
   | false =>
     subst hmv
     have hr : saveR d k s = (d, k, 1) := by
       unfold saveR
       rw [if_neg (by rw [HE.out.2.2.2.2.2.1]; decide), if_neg (by rw [← HBS.out]; decide), if_pos HMB.out.symm]
     have HRR := jI hr
     clear hr
     go_wp2_with (go_at_call 28; go_must (refine CM.out.mono ?_; rintro y w4 ⟨rfl, hb4⟩; have H4 := jI (HV.out.trans (hb4.mono HV.out.size)); clear hb4))
     go_ret
     rw [HRR.out]
     exact ⟨S, q, by rw [er_ne (show (1 : Nat) ≠ 0 by decide)]; rfl, HE.out.1.more H4.out, Turn.of_below (HE.out.2.2.1.trans (H4.out.mono HE.out.2.2.1.size))⟩
   | true =>
     subst hmv
     go_upto_region 9 with (go_at_call 28; go_must (refine CM.out.mono ?_; rintro y w4 ⟨rfl, hb4⟩; have H4 := jI (HV.out.trans (hb4.mono HV.out.size)); clear hb4))
     clear z0 z1 z2 z3 z4 z5 z6 CM
     obtain ⟨V5, hV5⟩ : ∃ V, V = w4.drew := ⟨_, rfl⟩
     have H5 := jI (show Below W1.heap.size W1 V5 from by rw [hV5]; exact H4.out.drew)
     refine wp_region_held_drew (S := fun W => Below W1.heap.size W1 W) (by kernel_rfl) (by rw [← hV5]; exact H5.out) (fun hHeld => ?_)
     rw [← hV5]
     rw [← hV5] at hHeld
     clear hV5
     have HC7 := jI fun W (hW : Below W1.heap.size W1 W) => (show W.cell? ⟨b, 7, none⟩ = some (.int .i64 (k.saves : Int)) from (HE.out.1.more hW).cell 7)
     have HCG := jI fun W (hW : Below W1.heap.size W1 W) => cells7 ((hW.block g (obj_lt HQ.out.1)).trans HQ.out.1)
     have ksv : IntKind.i64.wrap ((k.saves : Int) + 1) = ((k.saves + 1 : Nat) : Int) := by rw [IntKind.wrap_i64]; have := HE.out.2.2.2.2.2.2; omega
     refine wpAnyH_take (i := 0) (oi := { dst := Option.some 34, op := Op.move (Operand.tmp 0), type := 24, pos := "stable.go:66", after := #[], guard := Option.none }) (v := .pointer (some ⟨b, 0, none⟩)) rfl (by kernel_rfl) (by kernel_rfl) (by kernel_rfl) (fun _ _ _ h => h) (Or.inl ⟨by rfl, ?_⟩) hHeld ?_
     · intro W hSw
       go_simp
     simp only [Act.put, qA, qB, qC]
     refine wpAnyH_take (i := 1) (oi := { dst := Option.some 35, op := Op.nilCheck (Operand.tmp 34), type := 0, pos := "stable.go:66", after := #[{ on := 0, ground := Ground.data }], guard := Option.none }) (v := .pointer (some ⟨b, 0, none⟩)) rfl (by kernel_rfl) (by kernel_rfl) (by kernel_rfl) (fun _ _ _ h => h) (Or.inl ⟨by rfl, ?_⟩) hHeld ?_
     · intro W hSw
       go_simp
     simp only [Act.put, qA, qB, qC]
     refine wpAnyH_take (i := 2) (oi := { dst := Option.some 36, op := Op.fieldAddr 75 (Operand.tmp 35) 3, type := 0, pos := "stable.go:66", after := #[{ on := 1, ground := Ground.data }], guard := Option.none }) (v := .pointer (some ⟨b, 7, none⟩)) rfl (by kernel_rfl) (by kernel_rfl) (by kernel_rfl) (fun _ _ _ h => h) (Or.inl ⟨by rfl, ?_⟩) hHeld ?_
     · intro W hSw
       go_simp
     simp only [Act.put, qA, qB, qC]
     refine wpAnyH_take (i := 3) (oi := { dst := Option.some 37, op := Op.load 3 (Operand.tmp 36), type := 3, pos := "stable.go:66", after := #[{ on := 2, ground := Ground.data }], guard := Option.none }) (v := .int .i64 (k.saves : Int)) rfl (by kernel_rfl) (by kernel_rfl) (by kernel_rfl) (fun _ _ _ h => h) (Or.inl ⟨by rfl, ?_⟩) hHeld ?_
     · intro W hSw
       have y7 := HC7.out _ hSw
       go_simp
     simp only [Act.put, qA, qB, qC]
     refine wpAnyH_take (i := 4) (oi := { dst := Option.some 38, op := Op.binOp BinOp.add 3 (Operand.tmp 37) (Operand.const (Value.int IntKind.i64 1)) 3, type := 3, pos := "stable.go:66", after := #[{ on := 3, ground := Ground.data }], guard := Option.none }) (v := .int .i64 ((k.saves + 1 : Nat) : Int)) rfl (by kernel_rfl) (by kernel_rfl) (by kernel_rfl) (fun _ _ _ h => h) (Or.inl ⟨by rfl, ?_⟩) hHeld ?_
     · intro W hSw
       go_simp
     simp only [Act.put, qA, qB, qC]
     refine wpAnyH_take (i := 5) (oi := { dst := Option.some 39, op := Op.load 35 (Operand.tmp 3), type := 35, pos := "stable.go:66", after := #[], guard := Option.none }) (v := .agg #[.int .i64 s.term, .int .i64 s.vote, .int .i64 s.log.base, .int .i64 s.log.term, .slice v.AL v.nL v.cL, .slice v.AC v.nC v.cC, .slice v.AS v.nS v.cS]) rfl (by kernel_rfl) (by kernel_rfl) (by kernel_rfl) (fun _ _ _ h => h) (Or.inl ⟨by rfl, ?_⟩) hHeld ?_
     · intro W hSw
       obtain ⟨z0, z1, z2, z3, z4, z5, z6⟩ := HCG.out _ hSw
       go_simp
     simp only [Act.put, qA, qB, qC]
     obtain ⟨m, hm⟩ : ∃ m, m = (encS (k.saves + 1 : Nat) s).length := ⟨_, rfl⟩
     have hiV : InS V5 (Av V5 (KS S b Q)) s v := HE.out.2.1.move (fun x _ hx => H5.out.block x hx) fun x hx => ⟨Nat.lt_of_lt_of_le hx.1 H5.out.size, hx.2⟩
     have hAv : ∀ x, Av V5 (KS S b Q) x → x < V5.heap.size := fun _ hx => hx.1
     have CE := SEnc_any ((k.saves + 1 : Nat) : Int) s v V5 (HE.out.2.2.2.1.more (HE.out.2.2.1.trans (H5.out.mono HE.out.2.2.1.size))) (hiV.ents hAv) hiV.small (hiV.ints hAv) hiV.conf (hiV.bys hAv) hiV.snap m hm
     unfold stV at CE
     have CE := jI CE
     have HM := jI hm
     clear hiV hAv hm ksv
     refine wpAnyH_ready (rs := [6]) (by kernel_rfl) (by simp) ?_
     refine AllReadyH.cons (o := { dst := Option.some 40, op := Op.call { callee := Callee.value (Operand.func 29), args := #[Operand.tmp 38, Operand.tmp 39], argTypes := #[3, 35] }, type := 33, pos := "stable.go:66", after := #[{ on := 4, ground := Ground.data }, { on := 5, ground := Ground.data }], guard := Option.none }) rfl (fun K hK => ?_) AllReadyH.nil
     go_simp
     refine CE.out.mono ?_
     rintro y w6 ⟨A6, c6, rfl, hx6, hb6⟩
     have H6 := jI (jA hx6 (H5.out.trans (hb6.mono H5.out.size)))
     refine hK.out _ _ H6.out.2 (fun hHeld2 => ?_)
     clear hK K hHeld hx6 hb6 CE
     have hHeld := hHeld2
     clear hHeld2
     refine wpAnyH_take (i := 7) (oi := { dst := Option.some 5, op := Op.assign (Operand.tmp 40), type := 33, pos := "stable.go:66", after := #[{ on := 6, ground := Ground.data }, { on := 6, ground := Ground.chain }, { on := 0, ground := Ground.phase }, { on := 1, ground := Ground.phase }, { on := 2, ground := Ground.phase }, { on := 3, ground := Ground.phase }, { on := 4, ground := Ground.phase }, { on := 5, ground := Ground.phase }, { on := 6, ground := Ground.phase }], guard := Option.none }) (v := .slice A6 m c6) rfl (by kernel_rfl) (by kernel_rfl) (by kernel_rfl) (fun _ _ _ h => h) (Or.inl ⟨by rfl, ?_⟩) hHeld ?_
     · intro W hSw
       go_simp
     simp only [Act.put, qA, qB, qC]
     clear hHeld
     refine wpAnyH_done (by kernel_rfl) ?_ _
     clear HC7 HCG
     have hk6 := HE.out.1.more H6.out.2
     cases hon : k.on with
     | false =>
       have y6 : w6.cell? ⟨b, 6, none⟩ = some (.int .i64 0) := by rw [show (0 : Int) = onI false from rfl, ← hon]; exact hk6.cell 6
       have yT : w6.cell? ⟨b, 4, none⟩ = some (.pointer (some ⟨Q false, 0, none⟩)) := hk6.cell 4
       have CRm := Room_any (hk6.t false).box (by have := (hk6.t false).sizes; omega) (by have := (hk6.t false).sizes; have := (hk6.t false).fin; omega)
       obtain ⟨rz, hrz⟩ : ∃ rz, rz = roomZ (((k.T false).len : Int) - (k.T false).fin) := ⟨_, rfl⟩
       rw [← hrz] at CRm
       have CRm := jI CRm
       have hrm : fitT (k.T false) (encS (k.saves + 1 : Nat) s) = decide ((m : Int) ≤ rz) := by
         unfold fitT roomZ at *
         rw [← HM.out]
         by_cases h5 : ((k.T false).len : Int) - (k.T false).fin < 5
         · rw [if_pos h5] at hrz; rw [decide_eq_false (by omega), decide_eq_false (by omega)]
         · rw [if_neg h5] at hrz; by_cases h6 : (k.T false).fin + 5 + m ≤ (k.T false).len
           · rw [decide_eq_true h6, decide_eq_true (by omega)]
           · rw [decide_eq_false h6, decide_eq_false (by omega)]
       clear hrz
       by_cases hfit : (m : Int) ≤ rz
       · have i1 : ¬ (m : Int) > rz := by omega
         have hfx : (false = k.on ∧ fitT (k.T k.on) (encS (k.saves + 1 : Nat) s) = true) ∨ (false = !k.on ∧ fitT (k.T k.on) (encS (k.saves + 1 : Nat) s) = false ∧ ¬ (k.T (!k.on)).len < 5 + (encS (k.saves + 1 : Nat) s).length) := Or.inl ⟨hon.symm, by rw [hon, hrm, decide_eq_true hfit]⟩
         have hsr := saveR_lay (d := d) HE.out.2.2.2.2.2.1 HBS.out.symm HMB.out.symm false hfx
         have CL := fun w7 (hk7 : KB C w7 S b Q p d k q) hx7 => lay_any hk7 HE.out.2.2.2.2.1 false A6 m c6 (encS (k.saves + 1 : Nat) s) hx7 HM.out (Or.inl ⟨hon.symm, by rw [hrm, decide_eq_true hfit]⟩)
         rw [show onI false = 0 from rfl] at CL
         obtain ⟨dz, kz, ez, hz⟩ : ∃ dz kz ez, layX d k false (encS (k.saves + 1 : Nat) s) = (dz, kz, ez) := ⟨_, _, _, rfl⟩
         have hzk := layX_k d k false (encS (k.saves + 1 : Nat) s)
         simp only [hz] at CL hsr hzk
         have CL := jI CL
         have HRR := jI hsr
         have HZ := jI hzk
         clear hfx hfit hrm hon hz hsr hzk
         go_upto_region 15 with (go_at_call 30; go_must (refine CRm.out.mono ?_; rintro y w7 ⟨rfl, hb7⟩; have H7 := jI (H6.out.2.trans (hb7.mono H6.out.2.size)); have HX7 := jI ((H6.out.1.kept fun x hx _ => hb7.block x hx.2).mono (T' := Av w7 (KS S b Q)) fun x hx => ⟨Nat.lt_of_lt_of_le hx.2 hb7.size, fun e => by have := (HE.out.1.more H5.out).foot x e; have := hx.1; omega⟩); clear hb7))
         go_upto_region 16 with (go_at_call 31; go_must (refine (CL.out _ (HE.out.1.more H7.out) HX7.out).mono ?_; rintro y w8 ⟨S8, rfl, hk8, ht8⟩; have H8 := jI (jA hk8 ht8); clear hk8 ht8))
         clear y6 yT CRm CL i1
         have y15 : w8.cell? ⟨b, 15, none⟩ = some (er kz.dead) := H8.out.1.cell 15
         have f15 := frozen_of_row w8 b 15 _ _ H8.out.1.box
         by_cases he0 : ez = 0
         rotate_left
         · rw [er_ne he0]
           have HE0 := jI he0
           clear he0
           go_wp2_with fail
           obtain ⟨F, hF, hB, hO⟩ := kp_dead H8.out.1.box ez
           rw [er_ne HE0.out] at hF
           rw [← hF]
           go_ret
           have hu := H8.out.1.upd (k' := { kz with dead := ez }) hO hB rfl (H8.out.1.rows.move (fun x hx _ => hO.block x fun e => hx.2 (Or.inr (Or.inr (Or.inr e)))) fun x hx => ⟨by rw [hO.size]; exact hx.1, hx.2⟩) H8.out.1.ok
           rw [HRR.out]
           refine ⟨S8, q, by rw [er_ne HE0.out]; rfl, ?_, (Turn.of_below (HE.out.2.2.1.trans (H7.out.mono HE.out.2.2.1.size))).trans (H8.out.2.trans hu.2)⟩
           unfold finK
           rw [if_neg HE0.out]
           exact hu.1
         · subst he0
           rw [er_zero]
           clear y15 f15
           go_upto_region 19 with fail
           obtain ⟨V8, hV8⟩ : ∃ V, V = w8.drew := ⟨_, rfl⟩
           have hgw : w8.heap[g]? = some (.cells #[.int .i64 s.term, .int .i64 s.vote, .int .i64 s.log.base, .int .i64 s.log.term, .slice v.AL v.nL v.cL, .slice v.AC v.nC v.cC, .slice v.AS v.nS v.cS] 35 (0, 0)) := by
             have hg7 := (H7.out.block g (obj_lt HQ.out.1)).trans HQ.out.1
             exact (H8.out.2.kept.block g (obj_lt hg7) HGW.out).trans hg7
           have hi8 : InS V8 (fun x => x < V8.heap.size) s v := by
             have h7 := HE.out.2.1.move (T' := Av w7 (KS S b Q)) (fun x _ hx => H7.out.block x hx) fun x hx => ⟨Nat.lt_of_lt_of_le hx.1 H7.out.size, hx.2⟩
             rw [hV8]
             exact h7.move (fun x hx hx2 => H8.out.2.kept.block x hx2 hx.2) fun x hx => Nat.lt_of_lt_of_le hx.1 H8.out.2.kept.size
           have CC := scopied_any s v V8 (hi8.inp fun _ h => h) (hi8.ints fun _ h => h) (hi8.bys fun _ h => h) (mayS_parts HMB.out.symm).1 (mayS_parts HMB.out.symm).2.1 hi8.snap
           unfold stV at CC
           have CC := jI CC
           have HV8 := jI (show V8.heap[g]? = some (.cells #[.int .i64 s.term, .int .i64 s.vote, .int .i64 s.log.base, .int .i64 s.log.term, .slice v.AL v.nL v.cL, .slice v.AC v.nC v.cC, .slice v.AS v.nS v.cS] 35 (0, 0)) ∧ V8.heap[b]? = some (.cells (kpC kz q Q) 75 (0, 0)) ∧ Below w8.heap.size w8 V8 from by rw [hV8]; exact ⟨hgw, H8.out.1.box, (Below.refl _ _).drew⟩)
           refine wp_region_held_drew (S := fun W => W.heap[g]? = some (.cells #[.int .i64 s.term, .int .i64 s.vote, .int .i64 s.log.base, .int .i64 s.log.term, .slice v.AL v.nL v.cL, .slice v.AC v.nC v.cC, .slice v.AS v.nS v.cS] 35 (0, 0))) (by kernel_rfl) (by rw [← hV8]; exact HV8.out.1) (fun hHeld => ?_)
           rw [← hV8]
           rw [← hV8] at hHeld
           clear hV8 hgw hi8
           have ksv : IntKind.i64.wrap ((k.saves : Int) + 1) = ((k.saves + 1 : Nat) : Int) := by rw [IntKind.wrap_i64]; have := HE.out.2.2.2.2.2.2; omega
           refine wpAnyH_take (i := 0) (oi := { dst := Option.some 80, op := Op.move (Operand.tmp 0), type := 24, pos := "stable.go:78", after := #[], guard := Option.none }) (v := .pointer (some ⟨b, 0, none⟩)) rfl (by kernel_rfl) (by kernel_rfl) (by kernel_rfl) (fun _ _ _ h => h) (Or.inl ⟨by rfl, ?_⟩) hHeld ?_
           · intro W hSw
             go_simp
           simp only [Act.put, qA, qB, qC]
           refine wpAnyH_take (i := 1) (oi := { dst := Option.some 81, op := Op.move (Operand.tmp 0), type := 24, pos := "stable.go:78", after := #[{ on := 13, ground := Ground.gcOnly Departure.lateStores }], guard := Option.none }) (v := .pointer (some ⟨b, 0, none⟩)) rfl (by kernel_rfl) (by kernel_rfl) (by kernel_rfl) (fun _ _ _ h => h) (Or.inl ⟨by rfl, ?_⟩) hHeld ?_
           · intro W hSw
             go_simp
           simp only [Act.put, qA, qB, qC]
           refine wpAnyH_take (i := 2) (oi := { dst := Option.some 82, op := Op.move (Operand.tmp 0), type := 24, pos := "stable.go:78", after := #[{ on := 16, ground := Ground.gcOnly Departure.lateStores }], guard := Option.none }) (v := .pointer (some ⟨b, 0, none⟩)) rfl (by kernel_rfl) (by kernel_rfl) (by kernel_rfl) (fun _ _ _ h => h) (Or.inl ⟨by rfl, ?_⟩) hHeld ?_
           · intro W hSw
             go_simp
           simp only [Act.put, qA, qB, qC]
           refine wpAnyH_take (i := 3) (oi := { dst := Option.some 83, op := Op.move (Operand.tmp 6), type := 3, pos := "stable.go:78", after := #[], guard := Option.none }) (v := .int .i64 0) rfl (by kernel_rfl) (by kernel_rfl) (by kernel_rfl) (fun _ _ _ h => h) (Or.inl ⟨by rfl, ?_⟩) hHeld ?_
           · intro W hSw
             go_simp
           simp only [Act.put, qA, qB, qC]
           refine wpAnyH_take (i := 4) (oi := { dst := Option.some 84, op := Op.move (Operand.tmp 0), type := 24, pos := "stable.go:78", after := #[], guard := Option.none }) (v := .pointer (some ⟨b, 0, none⟩)) rfl (by kernel_rfl) (by kernel_rfl) (by kernel_rfl) (fun _ _ _ h => h) (Or.inl ⟨by rfl, ?_⟩) hHeld ?_
           · intro W hSw
             go_simp
           simp only [Act.put, qA, qB, qC]
           refine wpAnyH_take (i := 5) (oi := { dst := Option.some 85, op := Op.nilCheck (Operand.tmp 84), type := 0, pos := "stable.go:78", after := #[{ on := 4, ground := Ground.data }], guard := Option.none }) (v := .pointer (some ⟨b, 0, none⟩)) rfl (by kernel_rfl) (by kernel_rfl) (by kernel_rfl) (fun _ _ _ h => h) (Or.inl ⟨by rfl, ?_⟩) hHeld ?_
           · intro W hSw
             go_simp
           simp only [Act.put, qA, qB, qC]
           refine wpAnyH_take (i := 6) (oi := { dst := Option.some 86, op := Op.fieldAddr 75 (Operand.tmp 85) 3, type := 0, pos := "stable.go:78", after := #[{ on := 5, ground := Ground.data }], guard := Option.none }) (v := .pointer (some ⟨b, 7, none⟩)) rfl (by kernel_rfl) (by kernel_rfl) (by kernel_rfl) (fun _ _ _ h => h) (Or.inl ⟨by rfl, ?_⟩) hHeld ?_
           · intro W hSw
             go_simp
           simp only [Act.put, qA, qB, qC]
           refine wpAnyH_take (i := 9) (oi := { dst := Option.some 89, op := Op.load 35 (Operand.tmp 3), type := 35, pos := "stable.go:78", after := #[], guard := Option.none }) (v := .agg #[.int .i64 s.term, .int .i64 s.vote, .int .i64 s.log.base, .int .i64 s.log.term, .slice v.AL v.nL v.cL, .slice v.AC v.nC v.cC, .slice v.AS v.nS v.cS]) rfl (by kernel_rfl) (by kernel_rfl) (by kernel_rfl) (fun _ _ _ h => h) (Or.inl ⟨by rfl, ?_⟩) hHeld ?_
           · intro W hSw
             obtain ⟨z0, z1, z2, z3, z4, z5, z6⟩ := cells7 hSw
             go_simp
           simp only [Act.put, qA, qB, qC]
           refine wpAnyH_ready (rs := [7, 10]) (by kernel_rfl) (by simp) ?_
           refine AllReadyH.cons (o := { dst := Option.some 87, op := Op.load 3 (Operand.tmp 86), type := 3, pos := "stable.go:78", after := #[{ on := 6, ground := Ground.data }], guard := Option.none }) rfl (fun K hK => ?_) (AllReadyH.cons (o := { dst := Option.some 90, op := Op.call { callee := Callee.value (Operand.func 32), args := #[Operand.tmp 89], argTypes := #[35] }, type := 35, pos := "stable.go:78", after := #[{ on := 9, ground := Ground.data }], guard := Option.none }) rfl (fun K hK => ?_) AllReadyH.nil)
           · have y7 : V8.cell? ⟨b, 7, none⟩ = some (.int .i64 (k.saves : Int)) := by rw [← HZ.out.1]; exact kp_cell HV8.out.2.1 7
             go_simp
             refine hK.out _ _ (HV8.out.1) (fun hHeld2 => ?_)
             clear hK K hHeld
             have hHeld := hHeld2
             clear hHeld2
             refine wpAnyH_take (i := 8) (oi := { dst := Option.some 88, op := Op.binOp BinOp.add 3 (Operand.tmp 87) (Operand.const (Value.int IntKind.i64 1)) 3, type := 3, pos := "stable.go:78", after := #[{ on := 7, ground := Ground.data }], guard := Option.none }) (v := .int .i64 ((k.saves + 1 : Nat) : Int)) rfl (by kernel_rfl) (by kernel_rfl) (by kernel_rfl) (fun _ _ _ h => h) (Or.inl ⟨by rfl, ?_⟩) hHeld ?_
             · intro W hSw
               go_simp
             simp only [Act.put, qA, qB, qC]
             clear y7
             refine wpAnyH_ready (rs := [10]) (by kernel_rfl) (by simp) ?_
             refine AllReadyH.cons (o := { dst := Option.some 90, op := Op.call { callee := Callee.value (Operand.func 32), args := #[Operand.tmp 89], argTypes := #[35] }, type := 35, pos := "stable.go:78", after := #[{ on := 9, ground := Ground.data }], guard := Option.none }) rfl (fun K hK => ?_) AllReadyH.nil
             go_simp
             refine CC.out.mono ?_
             rintro y w9 ⟨v1, rfl, hfr, hb9⟩
             have hk9 : w9.heap[b]? = some (.cells (kpC kz q Q) 75 (0, 0)) := (hb9.block b (obj_lt HV8.out.2.1)).trans HV8.out.2.1
             have hg9 : w9.heap[g]? = some (.cells #[.int .i64 s.term, .int .i64 s.vote, .int .i64 s.log.base, .int .i64 s.log.term, .slice v.AL v.nL v.cL, .slice v.AC v.nC v.cC, .slice v.AS v.nS v.cS] 35 (0, 0)) := (hb9.block g (obj_lt HV8.out.1)).trans HV8.out.1
             have H9 := jI (jA hg9 (jA hk9 (jA hfr (HV8.out.2.2.trans (hb9.mono HV8.out.2.2.size)))))
             refine hK.out _ _ (H9.out.1) (fun hHeld2 => ?_)
             clear hK K hHeld
             have hHeld := hHeld2
             clear hHeld2
             clear hg9 hk9 hfr hb9
             refine wpAnyH_take (i := 11) (oi := { dst := Option.some 91, op := Op.nilCheck (Operand.tmp 80), type := 0, pos := "stable.go:78", after := #[{ on := 0, ground := Ground.data }, { on := 0, ground := Ground.phase }, { on := 1, ground := Ground.textOnly Departure.lateStores }, { on := 2, ground := Ground.textOnly Departure.lateStores }, { on := 3, ground := Ground.phase }, { on := 4, ground := Ground.textOnly Departure.lateStores }, { on := 5, ground := Ground.textOnly Departure.lateStoresUnsure }, { on := 6, ground := Ground.textOnly Departure.lateStoresUnsure }, { on := 7, ground := Ground.phase }, { on := 8, ground := Ground.textOnly Departure.lateStoresUnsure }, { on := 9, ground := Ground.textOnly Departure.lateStores }, { on := 10, ground := Ground.phase }], guard := Option.none }) (v := .pointer (some ⟨b, 0, none⟩)) rfl (by kernel_rfl) (by kernel_rfl) (by kernel_rfl) (fun _ _ _ h => h) (Or.inl ⟨by rfl, ?_⟩) hHeld ?_
             · intro W hSw
               go_simp
             simp only [Act.put, qA, qB, qC]
             refine wpAnyH_take (i := 12) (oi := { dst := Option.some 92, op := Op.fieldAddr 75 (Operand.tmp 91) 2, type := 0, pos := "stable.go:78", after := #[{ on := 11, ground := Ground.data }, { on := 0, ground := Ground.phase }, { on := 1, ground := Ground.textOnly Departure.lateStores }, { on := 2, ground := Ground.textOnly Departure.lateStores }, { on := 3, ground := Ground.phase }, { on := 4, ground := Ground.textOnly Departure.lateStores }, { on := 5, ground := Ground.textOnly Departure.lateStoresUnsure }, { on := 6, ground := Ground.textOnly Departure.lateStoresUnsure }, { on := 7, ground := Ground.phase }, { on := 8, ground := Ground.textOnly Departure.lateStoresUnsure }, { on := 9, ground := Ground.textOnly Departure.lateStores }, { on := 10, ground := Ground.phase }], guard := Option.none }) (v := .pointer (some ⟨b, 6, none⟩)) rfl (by kernel_rfl) (by kernel_rfl) (by kernel_rfl) (fun _ _ _ h => h) (Or.inl ⟨by rfl, ?_⟩) hHeld ?_
             · intro W hSw
               go_simp
             simp only [Act.put, qA, qB, qC]
             have c6 : w9.cell? ⟨b, 6, none⟩ = some (.int .i64 (onI kz.on)) := kp_cell H9.out.2.1 6
             have f6 := frozen_of_row w9 b 6 _ _ H9.out.2.1
             refine wpAnyH_ready (rs := [13]) (by kernel_rfl) (by simp) ?_
             refine AllReadyH.cons (o := { dst := Option.none, op := Op.store 3 (Operand.tmp 92) (Operand.tmp 83), type := 0, pos := "stable.go:78", after := #[{ on := 12, ground := Ground.data }, { on := 3, ground := Ground.data }, { on := 10, ground := Ground.chain }, { on := 0, ground := Ground.phase }, { on := 1, ground := Ground.textOnly Departure.lateStores }, { on := 2, ground := Ground.textOnly Departure.lateStores }, { on := 3, ground := Ground.phase }, { on := 4, ground := Ground.textOnly Departure.lateStores }, { on := 5, ground := Ground.textOnly Departure.lateStoresUnsure }, { on := 6, ground := Ground.textOnly Departure.lateStoresUnsure }, { on := 7, ground := Ground.phase }, { on := 8, ground := Ground.textOnly Departure.lateStoresUnsure }, { on := 9, ground := Ground.textOnly Departure.lateStores }, { on := 10, ground := Ground.phase }], guard := Option.none }) rfl (fun K hK => ?_) AllReadyH.nil
             go_simp
             obtain ⟨F1, hF1, hB1, hO1⟩ := kp_on H9.out.2.1 false
             rw [show onI false = 0 from rfl] at hF1
             rw [← hF1]
             have HF1 := jI (jA hB1 (jA hO1 ((hO1.block g HQ.out.2).trans H9.out.1)))
             clear hF1 hB1 hO1 c6 f6
             refine hK.out _ _ (HF1.out.2.2) (fun hHeld2 => ?_)
             clear hK K hHeld
             have hHeld := hHeld2
             clear hHeld2
             refine wpAnyH_take (i := 14) (oi := { dst := Option.some 93, op := Op.nilCheck (Operand.tmp 81), type := 0, pos := "stable.go:78", after := #[{ on := 1, ground := Ground.data }, { on := 0, ground := Ground.phase }, { on := 1, ground := Ground.phase }, { on := 2, ground := Ground.textOnly Departure.lateStores }, { on := 3, ground := Ground.phase }, { on := 4, ground := Ground.phase }, { on := 5, ground := Ground.phase }, { on := 6, ground := Ground.phase }, { on := 7, ground := Ground.phase }, { on := 8, ground := Ground.phase }, { on := 9, ground := Ground.textOnly Departure.lateStores }, { on := 10, ground := Ground.phase }, { on := 11, ground := Ground.phase }, { on := 12, ground := Ground.phase }, { on := 13, ground := Ground.phase }], guard := Option.none }) (v := .pointer (some ⟨b, 0, none⟩)) rfl (by kernel_rfl) (by kernel_rfl) (by kernel_rfl) (fun _ _ _ h => h) (Or.inl ⟨by rfl, ?_⟩) hHeld ?_
             · intro W hSw
               go_simp
             simp only [Act.put, qA, qB, qC]
             refine wpAnyH_take (i := 15) (oi := { dst := Option.some 94, op := Op.fieldAddr 75 (Operand.tmp 93) 3, type := 0, pos := "stable.go:78", after := #[{ on := 14, ground := Ground.data }, { on := 0, ground := Ground.phase }, { on := 1, ground := Ground.phase }, { on := 2, ground := Ground.textOnly Departure.lateStores }, { on := 3, ground := Ground.phase }, { on := 4, ground := Ground.phase }, { on := 5, ground := Ground.phase }, { on := 6, ground := Ground.phase }, { on := 7, ground := Ground.phase }, { on := 8, ground := Ground.phase }, { on := 9, ground := Ground.textOnly Departure.lateStores }, { on := 10, ground := Ground.phase }, { on := 11, ground := Ground.phase }, { on := 12, ground := Ground.phase }, { on := 13, ground := Ground.phase }], guard := Option.none }) (v := .pointer (some ⟨b, 7, none⟩)) rfl (by kernel_rfl) (by kernel_rfl) (by kernel_rfl) (fun _ _ _ h => h) (Or.inl ⟨by rfl, ?_⟩) hHeld ?_
             · intro W hSw
               go_simp
             simp only [Act.put, qA, qB, qC]
             have c7 : F1.cell? ⟨b, 7, none⟩ = some (.int .i64 (kz.saves : Int)) := kp_cell HF1.out.1 7
             have f7 := frozen_of_row F1 b 7 _ _ HF1.out.1
             refine wpAnyH_ready (rs := [16]) (by kernel_rfl) (by simp) ?_
             refine AllReadyH.cons (o := { dst := Option.none, op := Op.store 3 (Operand.tmp 94) (Operand.tmp 88), type := 0, pos := "stable.go:78", after := #[{ on := 15, ground := Ground.data }, { on := 8, ground := Ground.data }, { on := 13, ground := Ground.chain }, { on := 0, ground := Ground.phase }, { on := 1, ground := Ground.phase }, { on := 2, ground := Ground.textOnly Departure.lateStores }, { on := 3, ground := Ground.phase }, { on := 4, ground := Ground.phase }, { on := 5, ground := Ground.phase }, { on := 6, ground := Ground.phase }, { on := 7, ground := Ground.phase }, { on := 8, ground := Ground.phase }, { on := 9, ground := Ground.textOnly Departure.lateStores }, { on := 10, ground := Ground.phase }, { on := 11, ground := Ground.phase }, { on := 12, ground := Ground.phase }, { on := 13, ground := Ground.phase }], guard := Option.none }) rfl (fun K hK => ?_) AllReadyH.nil
             go_simp
             obtain ⟨F2, hF2, hB2, hO2⟩ := kp_sv HF1.out.1 (k.saves + 1)
             rw [show ((k.saves + 1 : Nat) : Int) = (k.saves : Int) + 1 from by omega] at hF2
             rw [← hF2]
             have HF2 := jI (jA hB2 (jA hO2 ((hO2.block g HQ.out.2).trans HF1.out.2.2)))
             clear hF2 hB2 hO2 c7 f7
             refine hK.out _ _ (HF2.out.2.2) (fun hHeld2 => ?_)
             clear hK K hHeld
             have hHeld := hHeld2
             clear hHeld2
             refine wpAnyH_take (i := 17) (oi := { dst := Option.some 95, op := Op.nilCheck (Operand.tmp 82), type := 0, pos := "stable.go:78", after := #[{ on := 2, ground := Ground.data }, { on := 0, ground := Ground.phase }, { on := 1, ground := Ground.phase }, { on := 2, ground := Ground.phase }, { on := 3, ground := Ground.phase }, { on := 4, ground := Ground.phase }, { on := 5, ground := Ground.phase }, { on := 6, ground := Ground.phase }, { on := 7, ground := Ground.phase }, { on := 8, ground := Ground.phase }, { on := 9, ground := Ground.phase }, { on := 10, ground := Ground.phase }, { on := 11, ground := Ground.phase }, { on := 12, ground := Ground.phase }, { on := 13, ground := Ground.phase }, { on := 14, ground := Ground.phase }, { on := 15, ground := Ground.phase }, { on := 16, ground := Ground.phase }], guard := Option.none }) (v := .pointer (some ⟨b, 0, none⟩)) rfl (by kernel_rfl) (by kernel_rfl) (by kernel_rfl) (fun _ _ _ h => h) (Or.inl ⟨by rfl, ?_⟩) hHeld ?_
             · intro W hSw
               go_simp
             simp only [Act.put, qA, qB, qC]
             refine wpAnyH_take (i := 18) (oi := { dst := Option.some 96, op := Op.fieldAddr 75 (Operand.tmp 95) 4, type := 0, pos := "stable.go:78", after := #[{ on := 17, ground := Ground.data }, { on := 0, ground := Ground.phase }, { on := 1, ground := Ground.phase }, { on := 2, ground := Ground.phase }, { on := 3, ground := Ground.phase }, { on := 4, ground := Ground.phase }, { on := 5, ground := Ground.phase }, { on := 6, ground := Ground.phase }, { on := 7, ground := Ground.phase }, { on := 8, ground := Ground.phase }, { on := 9, ground := Ground.phase }, { on := 10, ground := Ground.phase }, { on := 11, ground := Ground.phase }, { on := 12, ground := Ground.phase }, { on := 13, ground := Ground.phase }, { on := 14, ground := Ground.phase }, { on := 15, ground := Ground.phase }, { on := 16, ground := Ground.phase }], guard := Option.none }) (v := .pointer (some ⟨b, 8, none⟩)) rfl (by kernel_rfl) (by kernel_rfl) (by kernel_rfl) (fun _ _ _ h => h) (Or.inl ⟨by rfl, ?_⟩) hHeld ?_
             · intro W hSw
               go_simp
             simp only [Act.put, qA, qB, qC]
             have c8 : F2.cell? ⟨b, 8, none⟩ = some (.int .i64 kz.kept.term) := kp_cell HF2.out.1 8
             have c9 : F2.cell? ⟨b, 9, none⟩ = some (.int .i64 kz.kept.vote) := kp_cell HF2.out.1 9
             have c10 : F2.cell? ⟨b, 10, none⟩ = some (.int .i64 kz.kept.log.base) := kp_cell HF2.out.1 10
             have c11 : F2.cell? ⟨b, 11, none⟩ = some (.int .i64 kz.kept.log.term) := kp_cell HF2.out.1 11
             have c12 : F2.cell? ⟨b, 12, none⟩ = some (.slice q.AL q.nL q.cL) := kp_cell HF2.out.1 12
             have c13 : F2.cell? ⟨b, 13, none⟩ = some (.slice q.AC q.nC q.cC) := kp_cell HF2.out.1 13
             have c14 : F2.cell? ⟨b, 14, none⟩ = some (.slice q.AS q.nS q.cS) := kp_cell HF2.out.1 14
             have f8 := frozen_of_row F2 b 8 _ _ HF2.out.1; have f9 := frozen_of_row F2 b 9 _ _ HF2.out.1; have f10 := frozen_of_row F2 b 10 _ _ HF2.out.1; have f11 := frozen_of_row F2 b 11 _ _ HF2.out.1; have f12 := frozen_of_row F2 b 12 _ _ HF2.out.1; have f13 := frozen_of_row F2 b 13 _ _ HF2.out.1; have f14 := frozen_of_row F2 b 14 _ _ HF2.out.1
             refine wpAnyH_ready (rs := [19]) (by kernel_rfl) (by simp) ?_
             refine AllReadyH.cons (o := { dst := Option.none, op := Op.store 35 (Operand.tmp 96) (Operand.tmp 90), type := 0, pos := "stable.go:78", after := #[{ on := 18, ground := Ground.data }, { on := 10, ground := Ground.data }, { on := 16, ground := Ground.chain }, { on := 0, ground := Ground.phase }, { on := 1, ground := Ground.phase }, { on := 2, ground := Ground.phase }, { on := 3, ground := Ground.phase }, { on := 4, ground := Ground.phase }, { on := 5, ground := Ground.phase }, { on := 6, ground := Ground.phase }, { on := 7, ground := Ground.phase }, { on := 8, ground := Ground.phase }, { on := 9, ground := Ground.phase }, { on := 10, ground := Ground.phase }, { on := 11, ground := Ground.phase }, { on := 12, ground := Ground.phase }, { on := 13, ground := Ground.phase }, { on := 14, ground := Ground.phase }, { on := 15, ground := Ground.phase }, { on := 16, ground := Ground.phase }], guard := Option.none }) rfl (fun K hK => ?_) AllReadyH.nil
             go_simp
             obtain ⟨F3, hF3, hB3, hO3⟩ := kp_kept HF2.out.1 s v1
             rw [← hF3]
             have HF3 := jI (jA hB3 (jA hO3 ((hO3.block g HQ.out.2).trans HF2.out.2.2)))
             clear hF3 hB3 hO3 c8 c9 c10 c11 c12 c13 c14 f8 f9 f10 f11 f12 f13 f14
             refine hK.out _ _ HF3.out.2.2 (fun hHeld2 => ?_)
             clear hK K hHeld hHeld2
             refine wpAnyH_done (by kernel_rfl) ?_ _
             go_wp2_with fail
             go_ret
             exact save_end HE.out.2.2.1 H7.out H8.out.1 H8.out.2 HZ.out HRR.out HV8.out.2.2.size H9.out.2.2.1 H9.out.2.2.2 HF1.out.2.1 HF2.out.2.1 HF3.out.2.1 HF3.out.1 HE.out.2.1
           · go_simp
             refine CC.out.mono ?_
             rintro y w9 ⟨v1, rfl, hfr, hb9⟩
             have hk9 : w9.heap[b]? = some (.cells (kpC kz q Q) 75 (0, 0)) := (hb9.block b (obj_lt HV8.out.2.1)).trans HV8.out.2.1
             have hg9 : w9.heap[g]? = some (.cells #[.int .i64 s.term, .int .i64 s.vote, .int .i64 s.log.base, .int .i64 s.log.term, .slice v.AL v.nL v.cL, .slice v.AC v.nC v.cC, .slice v.AS v.nS v.cS] 35 (0, 0)) := (hb9.block g (obj_lt HV8.out.1)).trans HV8.out.1
             have H9 := jI (jA hg9 (jA hk9 (jA hfr (HV8.out.2.2.trans (hb9.mono HV8.out.2.2.size)))))
             refine hK.out _ _ (H9.out.1) (fun hHeld2 => ?_)
             clear hK K hHeld
             have hHeld := hHeld2
             clear hHeld2
             clear hg9 hk9 hfr hb9
             have y7 : w9.cell? ⟨b, 7, none⟩ = some (.int .i64 (k.saves : Int)) := by rw [← HZ.out.1]; exact kp_cell H9.out.2.1 7
             refine wpAnyH_ready (rs := [7]) (by kernel_rfl) (by simp) ?_
             refine AllReadyH.cons (o := { dst := Option.some 87, op := Op.load 3 (Operand.tmp 86), type := 3, pos := "stable.go:78", after := #[{ on := 6, ground := Ground.data }], guard := Option.none }) rfl (fun K hK => ?_) AllReadyH.nil
             go_simp
             refine hK.out _ _ (H9.out.1) (fun hHeld2 => ?_)
             clear hK K hHeld
             have hHeld := hHeld2
             clear hHeld2
             refine wpAnyH_take (i := 8) (oi := { dst := Option.some 88, op := Op.binOp BinOp.add 3 (Operand.tmp 87) (Operand.const (Value.int IntKind.i64 1)) 3, type := 3, pos := "stable.go:78", after := #[{ on := 7, ground := Ground.data }], guard := Option.none }) (v := .int .i64 ((k.saves + 1 : Nat) : Int)) rfl (by kernel_rfl) (by kernel_rfl) (by kernel_rfl) (fun _ _ _ h => h) (Or.inl ⟨by rfl, ?_⟩) hHeld ?_
             · intro W hSw
               go_simp
             simp only [Act.put, qA, qB, qC]
             clear y7
             refine wpAnyH_take (i := 11) (oi := { dst := Option.some 91, op := Op.nilCheck (Operand.tmp 80), type := 0, pos := "stable.go:78", after := #[{ on := 0, ground := Ground.data }, { on := 0, ground := Ground.phase }, { on := 1, ground := Ground.textOnly Departure.lateStores }, { on := 2, ground := Ground.textOnly Departure.lateStores }, { on := 3, ground := Ground.phase }, { on := 4, ground := Ground.textOnly Departure.lateStores }, { on := 5, ground := Ground.textOnly Departure.lateStoresUnsure }, { on := 6, ground := Ground.textOnly Departure.lateStoresUnsure }, { on := 7, ground := Ground.phase }, { on := 8, ground := Ground.textOnly Departure.lateStoresUnsure }, { on := 9, ground := Ground.textOnly Departure.lateStores }, { on := 10, ground := Ground.phase }], guard := Option.none }) (v := .pointer (some ⟨b, 0, none⟩)) rfl (by kernel_rfl) (by kernel_rfl) (by kernel_rfl) (fun _ _ _ h => h) (Or.inl ⟨by rfl, ?_⟩) hHeld ?_
             · intro W hSw
               go_simp
             simp only [Act.put, qA, qB, qC]
             refine wpAnyH_take (i := 12) (oi := { dst := Option.some 92, op := Op.fieldAddr 75 (Operand.tmp 91) 2, type := 0, pos := "stable.go:78", after := #[{ on := 11, ground := Ground.data }, { on := 0, ground := Ground.phase }, { on := 1, ground := Ground.textOnly Departure.lateStores }, { on := 2, ground := Ground.textOnly Departure.lateStores }, { on := 3, ground := Ground.phase }, { on := 4, ground := Ground.textOnly Departure.lateStores }, { on := 5, ground := Ground.textOnly Departure.lateStoresUnsure }, { on := 6, ground := Ground.textOnly Departure.lateStoresUnsure }, { on := 7, ground := Ground.phase }, { on := 8, ground := Ground.textOnly Departure.lateStoresUnsure }, { on := 9, ground := Ground.textOnly Departure.lateStores }, { on := 10, ground := Ground.phase }], guard := Option.none }) (v := .pointer (some ⟨b, 6, none⟩)) rfl (by kernel_rfl) (by kernel_rfl) (by kernel_rfl) (fun _ _ _ h => h) (Or.inl ⟨by rfl, ?_⟩) hHeld ?_
             · intro W hSw
               go_simp
             simp only [Act.put, qA, qB, qC]
             have c6 : w9.cell? ⟨b, 6, none⟩ = some (.int .i64 (onI kz.on)) := kp_cell H9.out.2.1 6
             have f6 := frozen_of_row w9 b 6 _ _ H9.out.2.1
             refine wpAnyH_ready (rs := [13]) (by kernel_rfl) (by simp) ?_
             refine AllReadyH.cons (o := { dst := Option.none, op := Op.store 3 (Operand.tmp 92) (Operand.tmp 83), type := 0, pos := "stable.go:78", after := #[{ on := 12, ground := Ground.data }, { on := 3, ground := Ground.data }, { on := 10, ground := Ground.chain }, { on := 0, ground := Ground.phase }, { on := 1, ground := Ground.textOnly Departure.lateStores }, { on := 2, ground := Ground.textOnly Departure.lateStores }, { on := 3, ground := Ground.phase }, { on := 4, ground := Ground.textOnly Departure.lateStores }, { on := 5, ground := Ground.textOnly Departure.lateStoresUnsure }, { on := 6, ground := Ground.textOnly Departure.lateStoresUnsure }, { on := 7, ground := Ground.phase }, { on := 8, ground := Ground.textOnly Departure.lateStoresUnsure }, { on := 9, ground := Ground.textOnly Departure.lateStores }, { on := 10, ground := Ground.phase }], guard := Option.none }) rfl (fun K hK => ?_) AllReadyH.nil
             go_simp
             obtain ⟨F1, hF1, hB1, hO1⟩ := kp_on H9.out.2.1 false
             rw [show onI false = 0 from rfl] at hF1
             rw [← hF1]
             have HF1 := jI (jA hB1 (jA hO1 ((hO1.block g HQ.out.2).trans H9.out.1)))
             clear hF1 hB1 hO1 c6 f6
             refine hK.out _ _ (HF1.out.2.2) (fun hHeld2 => ?_)
             clear hK K hHeld
             have hHeld := hHeld2
             clear hHeld2
             refine wpAnyH_take (i := 14) (oi := { dst := Option.some 93, op := Op.nilCheck (Operand.tmp 81), type := 0, pos := "stable.go:78", after := #[{ on := 1, ground := Ground.data }, { on := 0, ground := Ground.phase }, { on := 1, ground := Ground.phase }, { on := 2, ground := Ground.textOnly Departure.lateStores }, { on := 3, ground := Ground.phase }, { on := 4, ground := Ground.phase }, { on := 5, ground := Ground.phase }, { on := 6, ground := Ground.phase }, { on := 7, ground := Ground.phase }, { on := 8, ground := Ground.phase }, { on := 9, ground := Ground.textOnly Departure.lateStores }, { on := 10, ground := Ground.phase }, { on := 11, ground := Ground.phase }, { on := 12, ground := Ground.phase }, { on := 13, ground := Ground.phase }], guard := Option.none }) (v := .pointer (some ⟨b, 0, none⟩)) rfl (by kernel_rfl) (by kernel_rfl) (by kernel_rfl) (fun _ _ _ h => h) (Or.inl ⟨by rfl, ?_⟩) hHeld ?_
             · intro W hSw
               go_simp
             simp only [Act.put, qA, qB, qC]
             refine wpAnyH_take (i := 15) (oi := { dst := Option.some 94, op := Op.fieldAddr 75 (Operand.tmp 93) 3, type := 0, pos := "stable.go:78", after := #[{ on := 14, ground := Ground.data }, { on := 0, ground := Ground.phase }, { on := 1, ground := Ground.phase }, { on := 2, ground := Ground.textOnly Departure.lateStores }, { on := 3, ground := Ground.phase }, { on := 4, ground := Ground.phase }, { on := 5, ground := Ground.phase }, { on := 6, ground := Ground.phase }, { on := 7, ground := Ground.phase }, { on := 8, ground := Ground.phase }, { on := 9, ground := Ground.textOnly Departure.lateStores }, { on := 10, ground := Ground.phase }, { on := 11, ground := Ground.phase }, { on := 12, ground := Ground.phase }, { on := 13, ground := Ground.phase }], guard := Option.none }) (v := .pointer (some ⟨b, 7, none⟩)) rfl (by kernel_rfl) (by kernel_rfl) (by kernel_rfl) (fun _ _ _ h => h) (Or.inl ⟨by rfl, ?_⟩) hHeld ?_
             · intro W hSw
               go_simp
             simp only [Act.put, qA, qB, qC]
             have c7 : F1.cell? ⟨b, 7, none⟩ = some (.int .i64 (kz.saves : Int)) := kp_cell HF1.out.1 7
             have f7 := frozen_of_row F1 b 7 _ _ HF1.out.1
             refine wpAnyH_ready (rs := [16]) (by kernel_rfl) (by simp) ?_
             refine AllReadyH.cons (o := { dst := Option.none, op := Op.store 3 (Operand.tmp 94) (Operand.tmp 88), type := 0, pos := "stable.go:78", after := #[{ on := 15, ground := Ground.data }, { on := 8, ground := Ground.data }, { on := 13, ground := Ground.chain }, { on := 0, ground := Ground.phase }, { on := 1, ground := Ground.phase }, { on := 2, ground := Ground.textOnly Departure.lateStores }, { on := 3, ground := Ground.phase }, { on := 4, ground := Ground.phase }, { on := 5, ground := Ground.phase }, { on := 6, ground := Ground.phase }, { on := 7, ground := Ground.phase }, { on := 8, ground := Ground.phase }, { on := 9, ground := Ground.textOnly Departure.lateStores }, { on := 10, ground := Ground.phase }, { on := 11, ground := Ground.phase }, { on := 12, ground := Ground.phase }, { on := 13, ground := Ground.phase }], guard := Option.none }) rfl (fun K hK => ?_) AllReadyH.nil
             go_simp
             obtain ⟨F2, hF2, hB2, hO2⟩ := kp_sv HF1.out.1 (k.saves + 1)
             rw [show ((k.saves + 1 : Nat) : Int) = (k.saves : Int) + 1 from by omega] at hF2
             rw [← hF2]
             have HF2 := jI (jA hB2 (jA hO2 ((hO2.block g HQ.out.2).trans HF1.out.2.2)))
             clear hF2 hB2 hO2 c7 f7
             refine hK.out _ _ (HF2.out.2.2) (fun hHeld2 => ?_)
             clear hK K hHeld
             have hHeld := hHeld2
             clear hHeld2
             refine wpAnyH_take (i := 17) (oi := { dst := Option.some 95, op := Op.nilCheck (Operand.tmp 82), type := 0, pos := "stable.go:78", after := #[{ on := 2, ground := Ground.data }, { on := 0, ground := Ground.phase }, { on := 1, ground := Ground.phase }, { on := 2, ground := Ground.phase }, { on := 3, ground := Ground.phase }, { on := 4, ground := Ground.phase }, { on := 5, ground := Ground.phase }, { on := 6, ground := Ground.phase }, { on := 7, ground := Ground.phase }, { on := 8, ground := Ground.phase }, { on := 9, ground := Ground.phase }, { on := 10, ground := Ground.phase }, { on := 11, ground := Ground.phase }, { on := 12, ground := Ground.phase }, { on := 13, ground := Ground.phase }, { on := 14, ground := Ground.phase }, { on := 15, ground := Ground.phase }, { on := 16, ground := Ground.phase }], guard := Option.none }) (v := .pointer (some ⟨b, 0, none⟩)) rfl (by kernel_rfl) (by kernel_rfl) (by kernel_rfl) (fun _ _ _ h => h) (Or.inl ⟨by rfl, ?_⟩) hHeld ?_
             · intro W hSw
               go_simp
             simp only [Act.put, qA, qB, qC]
             refine wpAnyH_take (i := 18) (oi := { dst := Option.some 96, op := Op.fieldAddr 75 (Operand.tmp 95) 4, type := 0, pos := "stable.go:78", after := #[{ on := 17, ground := Ground.data }, { on := 0, ground := Ground.phase }, { on := 1, ground := Ground.phase }, { on := 2, ground := Ground.phase }, { on := 3, ground := Ground.phase }, { on := 4, ground := Ground.phase }, { on := 5, ground := Ground.phase }, { on := 6, ground := Ground.phase }, { on := 7, ground := Ground.phase }, { on := 8, ground := Ground.phase }, { on := 9, ground := Ground.phase }, { on := 10, ground := Ground.phase }, { on := 11, ground := Ground.phase }, { on := 12, ground := Ground.phase }, { on := 13, ground := Ground.phase }, { on := 14, ground := Ground.phase }, { on := 15, ground := Ground.phase }, { on := 16, ground := Ground.phase }], guard := Option.none }) (v := .pointer (some ⟨b, 8, none⟩)) rfl (by kernel_rfl) (by kernel_rfl) (by kernel_rfl) (fun _ _ _ h => h) (Or.inl ⟨by rfl, ?_⟩) hHeld ?_
             · intro W hSw
               go_simp
             simp only [Act.put, qA, qB, qC]
             have c8 : F2.cell? ⟨b, 8, none⟩ = some (.int .i64 kz.kept.term) := kp_cell HF2.out.1 8
             have c9 : F2.cell? ⟨b, 9, none⟩ = some (.int .i64 kz.kept.vote) := kp_cell HF2.out.1 9
             have c10 : F2.cell? ⟨b, 10, none⟩ = some (.int .i64 kz.kept.log.base) := kp_cell HF2.out.1 10
             have c11 : F2.cell? ⟨b, 11, none⟩ = some (.int .i64 kz.kept.log.term) := kp_cell HF2.out.1 11
             have c12 : F2.cell? ⟨b, 12, none⟩ = some (.slice q.AL q.nL q.cL) := kp_cell HF2.out.1 12
             have c13 : F2.cell? ⟨b, 13, none⟩ = some (.slice q.AC q.nC q.cC) := kp_cell HF2.out.1 13
             have c14 : F2.cell? ⟨b, 14, none⟩ = some (.slice q.AS q.nS q.cS) := kp_cell HF2.out.1 14
             have f8 := frozen_of_row F2 b 8 _ _ HF2.out.1; have f9 := frozen_of_row F2 b 9 _ _ HF2.out.1; have f10 := frozen_of_row F2 b 10 _ _ HF2.out.1; have f11 := frozen_of_row F2 b 11 _ _ HF2.out.1; have f12 := frozen_of_row F2 b 12 _ _ HF2.out.1; have f13 := frozen_of_row F2 b 13 _ _ HF2.out.1; have f14 := frozen_of_row F2 b 14 _ _ HF2.out.1
             refine wpAnyH_ready (rs := [19]) (by kernel_rfl) (by simp) ?_
             refine AllReadyH.cons (o := { dst := Option.none, op := Op.store 35 (Operand.tmp 96) (Operand.tmp 90), type := 0, pos := "stable.go:78", after := #[{ on := 18, ground := Ground.data }, { on := 10, ground := Ground.data }, { on := 16, ground := Ground.chain }, { on := 0, ground := Ground.phase }, { on := 1, ground := Ground.phase }, { on := 2, ground := Ground.phase }, { on := 3, ground := Ground.phase }, { on := 4, ground := Ground.phase }, { on := 5, ground := Ground.phase }, { on := 6, ground := Ground.phase }, { on := 7, ground := Ground.phase }, { on := 8, ground := Ground.phase }, { on := 9, ground := Ground.phase }, { on := 10, ground := Ground.phase }, { on := 11, ground := Ground.phase }, { on := 12, ground := Ground.phase }, { on := 13, ground := Ground.phase }, { on := 14, ground := Ground.phase }, { on := 15, ground := Ground.phase }, { on := 16, ground := Ground.phase }], guard := Option.none }) rfl (fun K hK => ?_) AllReadyH.nil
             go_simp
             obtain ⟨F3, hF3, hB3, hO3⟩ := kp_kept HF2.out.1 s v1
             rw [← hF3]
             have HF3 := jI (jA hB3 (jA hO3 ((hO3.block g HQ.out.2).trans HF2.out.2.2)))
             clear hF3 hB3 hO3 c8 c9 c10 c11 c12 c13 c14 f8 f9 f10 f11 f12 f13 f14
             refine hK.out _ _ HF3.out.2.2 (fun hHeld2 => ?_)
             clear hK K hHeld hHeld2
             refine wpAnyH_done (by kernel_rfl) ?_ _
             go_wp2_with fail
             go_ret
             exact save_end HE.out.2.2.1 H7.out H8.out.1 H8.out.2 HZ.out HRR.out HV8.out.2.2.size H9.out.2.2.1 H9.out.2.2.2 HF1.out.2.1 HF2.out.2.1 HF3.out.2.1 HF3.out.1 HE.out.2.1
       · have i1 : (m : Int) > rz := by omega
         obtain ⟨lz, hlz⟩ : ∃ lz : Int, lz = ((k.T true).len : Int) := ⟨_, rfl⟩
         have hls := (hk6.t true).sizes
         have iw : IntKind.i64.wrap (lz - 5) = lz - 5 := IntWalk.i64_in _ (by omega)
         have HLZ := jI hlz
         by_cases hg : lz - 5 < (m : Int)
         · have hr : saveR d k s = (d, k, 10) := by
             unfold saveR
             rw [if_neg (by rw [HE.out.2.2.2.2.2.1]; decide), if_neg (by rw [← HBS.out]; decide), if_neg (by rw [← HMB.out]; decide), hon, if_neg (by rw [hrm, decide_eq_false hfit]; decide), if_pos (by show (k.T true).len < _; rw [← HM.out]; omega)]
           have HRR := jI hr
           have i2 : (m : Int) > lz - 5 := by omega
           clear hr hlz hls hon hrm hfit hg
           go_wp2_with (go_at_call 30; go_must (refine CRm.out.mono ?_; rintro y w7 ⟨rfl, hb7⟩; have H7 := jI (H6.out.2.trans (hb7.mono H6.out.2.size)); have HX7 := jI ((H6.out.1.kept fun x hx _ => hb7.block x hx.2).mono (T' := Av w7 (KS S b Q)) fun x hx => ⟨Nat.lt_of_lt_of_le hx.2 hb7.size, fun e => by have := (HE.out.1.more H5.out).foot x e; have := hx.1; omega⟩); have yL : w7.cell? ⟨b, 3, none⟩ = some (.int .i64 lz) := (by rw [HLZ.out]; exact (HE.out.1.more H7.out).cell 3); clear hb7))
           go_ret
           rw [HRR.out]
           exact ⟨S, q, by rw [er_ne (show (10 : Nat) ≠ 0 by decide)]; rfl, HE.out.1.more H7.out, Turn.of_below (HE.out.2.2.1.trans (H7.out.mono HE.out.2.2.1.size))⟩
         have i2 : ¬ (m : Int) > lz - 5 := by omega
         have hfx : (true = k.on ∧ fitT (k.T k.on) (encS (k.saves + 1 : Nat) s) = true) ∨ (true = !k.on ∧ fitT (k.T k.on) (encS (k.saves + 1 : Nat) s) = false ∧ ¬ (k.T (!k.on)).len < 5 + (encS (k.saves + 1 : Nat) s).length) := Or.inr ⟨by rw [hon]; rfl, by rw [hon, hrm, decide_eq_false hfit], by rw [hon]; show ¬ (k.T true).len < _; rw [← HM.out]; omega⟩
         have hsr := saveR_lay (d := d) HE.out.2.2.2.2.2.1 HBS.out.symm HMB.out.symm true hfx
         have CL := fun w7 (hk7 : KB C w7 S b Q p d k q) hx7 => lay_any hk7 HE.out.2.2.2.2.1 true A6 m c6 (encS (k.saves + 1 : Nat) s) hx7 HM.out (Or.inr ⟨by rw [hon]; rfl, by rw [← HM.out]; omega⟩)
         rw [show onI true = 1 from rfl] at CL
         obtain ⟨dz, kz, ez, hz⟩ : ∃ dz kz ez, layX d k true (encS (k.saves + 1 : Nat) s) = (dz, kz, ez) := ⟨_, _, _, rfl⟩
         have hzk := layX_k d k true (encS (k.saves + 1 : Nat) s)
         simp only [hz] at CL hsr hzk
         have CL := jI CL
         have HRR := jI hsr
         have HZ := jI hzk
         clear hfx hfit hrm hon hz hsr hzk hg hlz hls
         go_upto_region 15 with (go_at_call 30; go_must (refine CRm.out.mono ?_; rintro y w7 ⟨rfl, hb7⟩; have H7 := jI (H6.out.2.trans (hb7.mono H6.out.2.size)); have HX7 := jI ((H6.out.1.kept fun x hx _ => hb7.block x hx.2).mono (T' := Av w7 (KS S b Q)) fun x hx => ⟨Nat.lt_of_lt_of_le hx.2 hb7.size, fun e => by have := (HE.out.1.more H5.out).foot x e; have := hx.1; omega⟩); have yL : w7.cell? ⟨b, 3, none⟩ = some (.int .i64 lz) := (by rw [HLZ.out]; exact (HE.out.1.more H7.out).cell 3); clear hb7))
         go_upto_region 16 with (go_at_call 31; go_must (refine (CL.out _ (HE.out.1.more H7.out) HX7.out).mono ?_; rintro y w8 ⟨S8, rfl, hk8, ht8⟩; have H8 := jI (jA hk8 ht8); clear hk8 ht8))
         clear y6 yT CRm CL i1 i2
         have y15 : w8.cell? ⟨b, 15, none⟩ = some (er kz.dead) := H8.out.1.cell 15
         have f15 := frozen_of_row w8 b 15 _ _ H8.out.1.box
         by_cases he0 : ez = 0
         rotate_left
         · rw [er_ne he0]
           have HE0 := jI he0
           clear he0
           go_wp2_with fail
           obtain ⟨F, hF, hB, hO⟩ := kp_dead H8.out.1.box ez
           rw [er_ne HE0.out] at hF
           rw [← hF]
           go_ret
           have hu := H8.out.1.upd (k' := { kz with dead := ez }) hO hB rfl (H8.out.1.rows.move (fun x hx _ => hO.block x fun e => hx.2 (Or.inr (Or.inr (Or.inr e)))) fun x hx => ⟨by rw [hO.size]; exact hx.1, hx.2⟩) H8.out.1.ok
           rw [HRR.out]
           refine ⟨S8, q, by rw [er_ne HE0.out]; rfl, ?_, (Turn.of_below (HE.out.2.2.1.trans (H7.out.mono HE.out.2.2.1.size))).trans (H8.out.2.trans hu.2)⟩
           unfold finK
           rw [if_neg HE0.out]
           exact hu.1
         · subst he0
           rw [er_zero]
           clear y15 f15
           go_upto_region 19 with fail
           obtain ⟨V8, hV8⟩ : ∃ V, V = w8.drew := ⟨_, rfl⟩
           have hgw : w8.heap[g]? = some (.cells #[.int .i64 s.term, .int .i64 s.vote, .int .i64 s.log.base, .int .i64 s.log.term, .slice v.AL v.nL v.cL, .slice v.AC v.nC v.cC, .slice v.AS v.nS v.cS] 35 (0, 0)) := by
             have hg7 := (H7.out.block g (obj_lt HQ.out.1)).trans HQ.out.1
             exact (H8.out.2.kept.block g (obj_lt hg7) HGW.out).trans hg7
           have hi8 : InS V8 (fun x => x < V8.heap.size) s v := by
             have h7 := HE.out.2.1.move (T' := Av w7 (KS S b Q)) (fun x _ hx => H7.out.block x hx) fun x hx => ⟨Nat.lt_of_lt_of_le hx.1 H7.out.size, hx.2⟩
             rw [hV8]
             exact h7.move (fun x hx hx2 => H8.out.2.kept.block x hx2 hx.2) fun x hx => Nat.lt_of_lt_of_le hx.1 H8.out.2.kept.size
           have CC := scopied_any s v V8 (hi8.inp fun _ h => h) (hi8.ints fun _ h => h) (hi8.bys fun _ h => h) (mayS_parts HMB.out.symm).1 (mayS_parts HMB.out.symm).2.1 hi8.snap
           unfold stV at CC
           have CC := jI CC
           have HV8 := jI (show V8.heap[g]? = some (.cells #[.int .i64 s.term, .int .i64 s.vote, .int .i64 s.log.base, .int .i64 s.log.term, .slice v.AL v.nL v.cL, .slice v.AC v.nC v.cC, .slice v.AS v.nS v.cS] 35 (0, 0)) ∧ V8.heap[b]? = some (.cells (kpC kz q Q) 75 (0, 0)) ∧ Below w8.heap.size w8 V8 from by rw [hV8]; exact ⟨hgw, H8.out.1.box, (Below.refl _ _).drew⟩)
           refine wp_region_held_drew (S := fun W => W.heap[g]? = some (.cells #[.int .i64 s.term, .int .i64 s.vote, .int .i64 s.log.base, .int .i64 s.log.term, .slice v.AL v.nL v.cL, .slice v.AC v.nC v.cC, .slice v.AS v.nS v.cS] 35 (0, 0))) (by kernel_rfl) (by rw [← hV8]; exact HV8.out.1) (fun hHeld => ?_)
           rw [← hV8]
           rw [← hV8] at hHeld
           clear hV8 hgw hi8
           have ksv : IntKind.i64.wrap ((k.saves : Int) + 1) = ((k.saves + 1 : Nat) : Int) := by rw [IntKind.wrap_i64]; have := HE.out.2.2.2.2.2.2; omega
           refine wpAnyH_take (i := 0) (oi := { dst := Option.some 80, op := Op.move (Operand.tmp 0), type := 24, pos := "stable.go:78", after := #[], guard := Option.none }) (v := .pointer (some ⟨b, 0, none⟩)) rfl (by kernel_rfl) (by kernel_rfl) (by kernel_rfl) (fun _ _ _ h => h) (Or.inl ⟨by rfl, ?_⟩) hHeld ?_
           · intro W hSw
             go_simp
           simp only [Act.put, qA, qB, qC]
           refine wpAnyH_take (i := 1) (oi := { dst := Option.some 81, op := Op.move (Operand.tmp 0), type := 24, pos := "stable.go:78", after := #[{ on := 13, ground := Ground.gcOnly Departure.lateStores }], guard := Option.none }) (v := .pointer (some ⟨b, 0, none⟩)) rfl (by kernel_rfl) (by kernel_rfl) (by kernel_rfl) (fun _ _ _ h => h) (Or.inl ⟨by rfl, ?_⟩) hHeld ?_
           · intro W hSw
             go_simp
           simp only [Act.put, qA, qB, qC]
           refine wpAnyH_take (i := 2) (oi := { dst := Option.some 82, op := Op.move (Operand.tmp 0), type := 24, pos := "stable.go:78", after := #[{ on := 16, ground := Ground.gcOnly Departure.lateStores }], guard := Option.none }) (v := .pointer (some ⟨b, 0, none⟩)) rfl (by kernel_rfl) (by kernel_rfl) (by kernel_rfl) (fun _ _ _ h => h) (Or.inl ⟨by rfl, ?_⟩) hHeld ?_
           · intro W hSw
             go_simp
           simp only [Act.put, qA, qB, qC]
           refine wpAnyH_take (i := 3) (oi := { dst := Option.some 83, op := Op.move (Operand.tmp 6), type := 3, pos := "stable.go:78", after := #[], guard := Option.none }) (v := .int .i64 1) rfl (by kernel_rfl) (by kernel_rfl) (by kernel_rfl) (fun _ _ _ h => h) (Or.inl ⟨by rfl, ?_⟩) hHeld ?_
           · intro W hSw
             go_simp
           simp only [Act.put, qA, qB, qC]
           refine wpAnyH_take (i := 4) (oi := { dst := Option.some 84, op := Op.move (Operand.tmp 0), type := 24, pos := "stable.go:78", after := #[], guard := Option.none }) (v := .pointer (some ⟨b, 0, none⟩)) rfl (by kernel_rfl) (by kernel_rfl) (by kernel_rfl) (fun _ _ _ h => h) (Or.inl ⟨by rfl, ?_⟩) hHeld ?_
           · intro W hSw
             go_simp
           simp only [Act.put, qA, qB, qC]
           refine wpAnyH_take (i := 5) (oi := { dst := Option.some 85, op := Op.nilCheck (Operand.tmp 84), type := 0, pos := "stable.go:78", after := #[{ on := 4, ground := Ground.data }], guard := Option.none }) (v := .pointer (some ⟨b, 0, none⟩)) rfl (by kernel_rfl) (by kernel_rfl) (by kernel_rfl) (fun _ _ _ h => h) (Or.inl ⟨by rfl, ?_⟩) hHeld ?_
           · intro W hSw
             go_simp
           simp only [Act.put, qA, qB, qC]
           refine wpAnyH_take (i := 6) (oi := { dst := Option.some 86, op := Op.fieldAddr 75 (Operand.tmp 85) 3, type := 0, pos := "stable.go:78", after := #[{ on := 5, ground := Ground.data }], guard := Option.none }) (v := .pointer (some ⟨b, 7, none⟩)) rfl (by kernel_rfl) (by kernel_rfl) (by kernel_rfl) (fun _ _ _ h => h) (Or.inl ⟨by rfl, ?_⟩) hHeld ?_
           · intro W hSw
             go_simp
           simp only [Act.put, qA, qB, qC]
           refine wpAnyH_take (i := 9) (oi := { dst := Option.some 89, op := Op.load 35 (Operand.tmp 3), type := 35, pos := "stable.go:78", after := #[], guard := Option.none }) (v := .agg #[.int .i64 s.term, .int .i64 s.vote, .int .i64 s.log.base, .int .i64 s.log.term, .slice v.AL v.nL v.cL, .slice v.AC v.nC v.cC, .slice v.AS v.nS v.cS]) rfl (by kernel_rfl) (by kernel_rfl) (by kernel_rfl) (fun _ _ _ h => h) (Or.inl ⟨by rfl, ?_⟩) hHeld ?_
           · intro W hSw
             obtain ⟨z0, z1, z2, z3, z4, z5, z6⟩ := cells7 hSw
             go_simp
           simp only [Act.put, qA, qB, qC]
           refine wpAnyH_ready (rs := [7, 10]) (by kernel_rfl) (by simp) ?_
           refine AllReadyH.cons (o := { dst := Option.some 87, op := Op.load 3 (Operand.tmp 86), type := 3, pos := "stable.go:78", after := #[{ on := 6, ground := Ground.data }], guard := Option.none }) rfl (fun K hK => ?_) (AllReadyH.cons (o := { dst := Option.some 90, op := Op.call { callee := Callee.value (Operand.func 32), args := #[Operand.tmp 89], argTypes := #[35] }, type := 35, pos := "stable.go:78", after := #[{ on := 9, ground := Ground.data }], guard := Option.none }) rfl (fun K hK => ?_) AllReadyH.nil)
           · have y7 : V8.cell? ⟨b, 7, none⟩ = some (.int .i64 (k.saves : Int)) := by rw [← HZ.out.1]; exact kp_cell HV8.out.2.1 7
             go_simp
             refine hK.out _ _ (HV8.out.1) (fun hHeld2 => ?_)
             clear hK K hHeld
             have hHeld := hHeld2
             clear hHeld2
             refine wpAnyH_take (i := 8) (oi := { dst := Option.some 88, op := Op.binOp BinOp.add 3 (Operand.tmp 87) (Operand.const (Value.int IntKind.i64 1)) 3, type := 3, pos := "stable.go:78", after := #[{ on := 7, ground := Ground.data }], guard := Option.none }) (v := .int .i64 ((k.saves + 1 : Nat) : Int)) rfl (by kernel_rfl) (by kernel_rfl) (by kernel_rfl) (fun _ _ _ h => h) (Or.inl ⟨by rfl, ?_⟩) hHeld ?_
             · intro W hSw
               go_simp
             simp only [Act.put, qA, qB, qC]
             clear y7
             refine wpAnyH_ready (rs := [10]) (by kernel_rfl) (by simp) ?_
             refine AllReadyH.cons (o := { dst := Option.some 90, op := Op.call { callee := Callee.value (Operand.func 32), args := #[Operand.tmp 89], argTypes := #[35] }, type := 35, pos := "stable.go:78", after := #[{ on := 9, ground := Ground.data }], guard := Option.none }) rfl (fun K hK => ?_) AllReadyH.nil
             go_simp
             refine CC.out.mono ?_
             rintro y w9 ⟨v1, rfl, hfr, hb9⟩
             have hk9 : w9.heap[b]? = some (.cells (kpC kz q Q) 75 (0, 0)) := (hb9.block b (obj_lt HV8.out.2.1)).trans HV8.out.2.1
             have hg9 : w9.heap[g]? = some (.cells #[.int .i64 s.term, .int .i64 s.vote, .int .i64 s.log.base, .int .i64 s.log.term, .slice v.AL v.nL v.cL, .slice v.AC v.nC v.cC, .slice v.AS v.nS v.cS] 35 (0, 0)) := (hb9.block g (obj_lt HV8.out.1)).trans HV8.out.1
             have H9 := jI (jA hg9 (jA hk9 (jA hfr (HV8.out.2.2.trans (hb9.mono HV8.out.2.2.size)))))
             refine hK.out _ _ (H9.out.1) (fun hHeld2 => ?_)
             clear hK K hHeld
             have hHeld := hHeld2
             clear hHeld2
             clear hg9 hk9 hfr hb9
             refine wpAnyH_take (i := 11) (oi := { dst := Option.some 91, op := Op.nilCheck (Operand.tmp 80), type := 0, pos := "stable.go:78", after := #[{ on := 0, ground := Ground.data }, { on := 0, ground := Ground.phase }, { on := 1, ground := Ground.textOnly Departure.lateStores }, { on := 2, ground := Ground.textOnly Departure.lateStores }, { on := 3, ground := Ground.phase }, { on := 4, ground := Ground.textOnly Departure.lateStores }, { on := 5, ground := Ground.textOnly Departure.lateStoresUnsure }, { on := 6, ground := Ground.textOnly Departure.lateStoresUnsure }, { on := 7, ground := Ground.phase }, { on := 8, ground := Ground.textOnly Departure.lateStoresUnsure }, { on := 9, ground := Ground.textOnly Departure.lateStores }, { on := 10, ground := Ground.phase }], guard := Option.none }) (v := .pointer (some ⟨b, 0, none⟩)) rfl (by kernel_rfl) (by kernel_rfl) (by kernel_rfl) (fun _ _ _ h => h) (Or.inl ⟨by rfl, ?_⟩) hHeld ?_
             · intro W hSw
               go_simp
             simp only [Act.put, qA, qB, qC]
             refine wpAnyH_take (i := 12) (oi := { dst := Option.some 92, op := Op.fieldAddr 75 (Operand.tmp 91) 2, type := 0, pos := "stable.go:78", after := #[{ on := 11, ground := Ground.data }, { on := 0, ground := Ground.phase }, { on := 1, ground := Ground.textOnly Departure.lateStores }, { on := 2, ground := Ground.textOnly Departure.lateStores }, { on := 3, ground := Ground.phase }, { on := 4, ground := Ground.textOnly Departure.lateStores }, { on := 5, ground := Ground.textOnly Departure.lateStoresUnsure }, { on := 6, ground := Ground.textOnly Departure.lateStoresUnsure }, { on := 7, ground := Ground.phase }, { on := 8, ground := Ground.textOnly Departure.lateStoresUnsure }, { on := 9, ground := Ground.textOnly Departure.lateStores }, { on := 10, ground := Ground.phase }], guard := Option.none }) (v := .pointer (some ⟨b, 6, none⟩)) rfl (by kernel_rfl) (by kernel_rfl) (by kernel_rfl) (fun _ _ _ h => h) (Or.inl ⟨by rfl, ?_⟩) hHeld ?_
             · intro W hSw
               go_simp
             simp only [Act.put, qA, qB, qC]
             have c6 : w9.cell? ⟨b, 6, none⟩ = some (.int .i64 (onI kz.on)) := kp_cell H9.out.2.1 6
             have f6 := frozen_of_row w9 b 6 _ _ H9.out.2.1
             refine wpAnyH_ready (rs := [13]) (by kernel_rfl) (by simp) ?_
             refine AllReadyH.cons (o := { dst := Option.none, op := Op.store 3 (Operand.tmp 92) (Operand.tmp 83), type := 0, pos := "stable.go:78", after := #[{ on := 12, ground := Ground.data }, { on := 3, ground := Ground.data }, { on := 10, ground := Ground.chain }, { on := 0, ground := Ground.phase }, { on := 1, ground := Ground.textOnly Departure.lateStores }, { on := 2, ground := Ground.textOnly Departure.lateStores }, { on := 3, ground := Ground.phase }, { on := 4, ground := Ground.textOnly Departure.lateStores }, { on := 5, ground := Ground.textOnly Departure.lateStoresUnsure }, { on := 6, ground := Ground.textOnly Departure.lateStoresUnsure }, { on := 7, ground := Ground.phase }, { on := 8, ground := Ground.textOnly Departure.lateStoresUnsure }, { on := 9, ground := Ground.textOnly Departure.lateStores }, { on := 10, ground := Ground.phase }], guard := Option.none }) rfl (fun K hK => ?_) AllReadyH.nil
             go_simp
             obtain ⟨F1, hF1, hB1, hO1⟩ := kp_on H9.out.2.1 true
             rw [show onI true = 1 from rfl] at hF1
             rw [← hF1]
             have HF1 := jI (jA hB1 (jA hO1 ((hO1.block g HQ.out.2).trans H9.out.1)))
             clear hF1 hB1 hO1 c6 f6
             refine hK.out _ _ (HF1.out.2.2) (fun hHeld2 => ?_)
             clear hK K hHeld
             have hHeld := hHeld2
             clear hHeld2
             refine wpAnyH_take (i := 14) (oi := { dst := Option.some 93, op := Op.nilCheck (Operand.tmp 81), type := 0, pos := "stable.go:78", after := #[{ on := 1, ground := Ground.data }, { on := 0, ground := Ground.phase }, { on := 1, ground := Ground.phase }, { on := 2, ground := Ground.textOnly Departure.lateStores }, { on := 3, ground := Ground.phase }, { on := 4, ground := Ground.phase }, { on := 5, ground := Ground.phase }, { on := 6, ground := Ground.phase }, { on := 7, ground := Ground.phase }, { on := 8, ground := Ground.phase }, { on := 9, ground := Ground.textOnly Departure.lateStores }, { on := 10, ground := Ground.phase }, { on := 11, ground := Ground.phase }, { on := 12, ground := Ground.phase }, { on := 13, ground := Ground.phase }], guard := Option.none }) (v := .pointer (some ⟨b, 0, none⟩)) rfl (by kernel_rfl) (by kernel_rfl) (by kernel_rfl) (fun _ _ _ h => h) (Or.inl ⟨by rfl, ?_⟩) hHeld ?_
             · intro W hSw
               go_simp
             simp only [Act.put, qA, qB, qC]
             refine wpAnyH_take (i := 15) (oi := { dst := Option.some 94, op := Op.fieldAddr 75 (Operand.tmp 93) 3, type := 0, pos := "stable.go:78", after := #[{ on := 14, ground := Ground.data }, { on := 0, ground := Ground.phase }, { on := 1, ground := Ground.phase }, { on := 2, ground := Ground.textOnly Departure.lateStores }, { on := 3, ground := Ground.phase }, { on := 4, ground := Ground.phase }, { on := 5, ground := Ground.phase }, { on := 6, ground := Ground.phase }, { on := 7, ground := Ground.phase }, { on := 8, ground := Ground.phase }, { on := 9, ground := Ground.textOnly Departure.lateStores }, { on := 10, ground := Ground.phase }, { on := 11, ground := Ground.phase }, { on := 12, ground := Ground.phase }, { on := 13, ground := Ground.phase }], guard := Option.none }) (v := .pointer (some ⟨b, 7, none⟩)) rfl (by kernel_rfl) (by kernel_rfl) (by kernel_rfl) (fun _ _ _ h => h) (Or.inl ⟨by rfl, ?_⟩) hHeld ?_
             · intro W hSw
               go_simp
             simp only [Act.put, qA, qB, qC]
             have c7 : F1.cell? ⟨b, 7, none⟩ = some (.int .i64 (kz.saves : Int)) := kp_cell HF1.out.1 7
             have f7 := frozen_of_row F1 b 7 _ _ HF1.out.1
             refine wpAnyH_ready (rs := [16]) (by kernel_rfl) (by simp) ?_
             refine AllReadyH.cons (o := { dst := Option.none, op := Op.store 3 (Operand.tmp 94) (Operand.tmp 88), type := 0, pos := "stable.go:78", after := #[{ on := 15, ground := Ground.data }, { on := 8, ground := Ground.data }, { on := 13, ground := Ground.chain }, { on := 0, ground := Ground.phase }, { on := 1, ground := Ground.phase }, { on := 2, ground := Ground.textOnly Departure.lateStores }, { on := 3, ground := Ground.phase }, { on := 4, ground := Ground.phase }, { on := 5, ground := Ground.phase }, { on := 6, ground := Ground.phase }, { on := 7, ground := Ground.phase }, { on := 8, ground := Ground.phase }, { on := 9, ground := Ground.textOnly Departure.lateStores }, { on := 10, ground := Ground.phase }, { on := 11, ground := Ground.phase }, { on := 12, ground := Ground.phase }, { on := 13, ground := Ground.phase }], guard := Option.none }) rfl (fun K hK => ?_) AllReadyH.nil
             go_simp
             obtain ⟨F2, hF2, hB2, hO2⟩ := kp_sv HF1.out.1 (k.saves + 1)
             rw [show ((k.saves + 1 : Nat) : Int) = (k.saves : Int) + 1 from by omega] at hF2
             rw [← hF2]
             have HF2 := jI (jA hB2 (jA hO2 ((hO2.block g HQ.out.2).trans HF1.out.2.2)))
             clear hF2 hB2 hO2 c7 f7
             refine hK.out _ _ (HF2.out.2.2) (fun hHeld2 => ?_)
             clear hK K hHeld
             have hHeld := hHeld2
             clear hHeld2
             refine wpAnyH_take (i := 17) (oi := { dst := Option.some 95, op := Op.nilCheck (Operand.tmp 82), type := 0, pos := "stable.go:78", after := #[{ on := 2, ground := Ground.data }, { on := 0, ground := Ground.phase }, { on := 1, ground := Ground.phase }, { on := 2, ground := Ground.phase }, { on := 3, ground := Ground.phase }, { on := 4, ground := Ground.phase }, { on := 5, ground := Ground.phase }, { on := 6, ground := Ground.phase }, { on := 7, ground := Ground.phase }, { on := 8, ground := Ground.phase }, { on := 9, ground := Ground.phase }, { on := 10, ground := Ground.phase }, { on := 11, ground := Ground.phase }, { on := 12, ground := Ground.phase }, { on := 13, ground := Ground.phase }, { on := 14, ground := Ground.phase }, { on := 15, ground := Ground.phase }, { on := 16, ground := Ground.phase }], guard := Option.none }) (v := .pointer (some ⟨b, 0, none⟩)) rfl (by kernel_rfl) (by kernel_rfl) (by kernel_rfl) (fun _ _ _ h => h) (Or.inl ⟨by rfl, ?_⟩) hHeld ?_
             · intro W hSw
               go_simp
             simp only [Act.put, qA, qB, qC]
             refine wpAnyH_take (i := 18) (oi := { dst := Option.some 96, op := Op.fieldAddr 75 (Operand.tmp 95) 4, type := 0, pos := "stable.go:78", after := #[{ on := 17, ground := Ground.data }, { on := 0, ground := Ground.phase }, { on := 1, ground := Ground.phase }, { on := 2, ground := Ground.phase }, { on := 3, ground := Ground.phase }, { on := 4, ground := Ground.phase }, { on := 5, ground := Ground.phase }, { on := 6, ground := Ground.phase }, { on := 7, ground := Ground.phase }, { on := 8, ground := Ground.phase }, { on := 9, ground := Ground.phase }, { on := 10, ground := Ground.phase }, { on := 11, ground := Ground.phase }, { on := 12, ground := Ground.phase }, { on := 13, ground := Ground.phase }, { on := 14, ground := Ground.phase }, { on := 15, ground := Ground.phase }, { on := 16, ground := Ground.phase }], guard := Option.none }) (v := .pointer (some ⟨b, 8, none⟩)) rfl (by kernel_rfl) (by kernel_rfl) (by kernel_rfl) (fun _ _ _ h => h) (Or.inl ⟨by rfl, ?_⟩) hHeld ?_
             · intro W hSw
               go_simp
             simp only [Act.put, qA, qB, qC]
             have c8 : F2.cell? ⟨b, 8, none⟩ = some (.int .i64 kz.kept.term) := kp_cell HF2.out.1 8
             have c9 : F2.cell? ⟨b, 9, none⟩ = some (.int .i64 kz.kept.vote) := kp_cell HF2.out.1 9
             have c10 : F2.cell? ⟨b, 10, none⟩ = some (.int .i64 kz.kept.log.base) := kp_cell HF2.out.1 10
             have c11 : F2.cell? ⟨b, 11, none⟩ = some (.int .i64 kz.kept.log.term) := kp_cell HF2.out.1 11
             have c12 : F2.cell? ⟨b, 12, none⟩ = some (.slice q.AL q.nL q.cL) := kp_cell HF2.out.1 12
             have c13 : F2.cell? ⟨b, 13, none⟩ = some (.slice q.AC q.nC q.cC) := kp_cell HF2.out.1 13
             have c14 : F2.cell? ⟨b, 14, none⟩ = some (.slice q.AS q.nS q.cS) := kp_cell HF2.out.1 14
             have f8 := frozen_of_row F2 b 8 _ _ HF2.out.1; have f9 := frozen_of_row F2 b 9 _ _ HF2.out.1; have f10 := frozen_of_row F2 b 10 _ _ HF2.out.1; have f11 := frozen_of_row F2 b 11 _ _ HF2.out.1; have f12 := frozen_of_row F2 b 12 _ _ HF2.out.1; have f13 := frozen_of_row F2 b 13 _ _ HF2.out.1; have f14 := frozen_of_row F2 b 14 _ _ HF2.out.1
             refine wpAnyH_ready (rs := [19]) (by kernel_rfl) (by simp) ?_
             refine AllReadyH.cons (o := { dst := Option.none, op := Op.store 35 (Operand.tmp 96) (Operand.tmp 90), type := 0, pos := "stable.go:78", after := #[{ on := 18, ground := Ground.data }, { on := 10, ground := Ground.data }, { on := 16, ground := Ground.chain }, { on := 0, ground := Ground.phase }, { on := 1, ground := Ground.phase }, { on := 2, ground := Ground.phase }, { on := 3, ground := Ground.phase }, { on := 4, ground := Ground.phase }, { on := 5, ground := Ground.phase }, { on := 6, ground := Ground.phase }, { on := 7, ground := Ground.phase }, { on := 8, ground := Ground.phase }, { on := 9, ground := Ground.phase }, { on := 10, ground := Ground.phase }, { on := 11, ground := Ground.phase }, { on := 12, ground := Ground.phase }, { on := 13, ground := Ground.phase }, { on := 14, ground := Ground.phase }, { on := 15, ground := Ground.phase }, { on := 16, ground := Ground.phase }], guard := Option.none }) rfl (fun K hK => ?_) AllReadyH.nil
             go_simp
             obtain ⟨F3, hF3, hB3, hO3⟩ := kp_kept HF2.out.1 s v1
             rw [← hF3]
             have HF3 := jI (jA hB3 (jA hO3 ((hO3.block g HQ.out.2).trans HF2.out.2.2)))
             clear hF3 hB3 hO3 c8 c9 c10 c11 c12 c13 c14 f8 f9 f10 f11 f12 f13 f14
             refine hK.out _ _ HF3.out.2.2 (fun hHeld2 => ?_)
             clear hK K hHeld hHeld2
             refine wpAnyH_done (by kernel_rfl) ?_ _
             go_wp2_with fail
             go_ret
             exact save_end HE.out.2.2.1 H7.out H8.out.1 H8.out.2 HZ.out HRR.out HV8.out.2.2.size H9.out.2.2.1 H9.out.2.2.2 HF1.out.2.1 HF2.out.2.1 HF3.out.2.1 HF3.out.1 HE.out.2.1
           · go_simp
             refine CC.out.mono ?_
             rintro y w9 ⟨v1, rfl, hfr, hb9⟩
             have hk9 : w9.heap[b]? = some (.cells (kpC kz q Q) 75 (0, 0)) := (hb9.block b (obj_lt HV8.out.2.1)).trans HV8.out.2.1
             have hg9 : w9.heap[g]? = some (.cells #[.int .i64 s.term, .int .i64 s.vote, .int .i64 s.log.base, .int .i64 s.log.term, .slice v.AL v.nL v.cL, .slice v.AC v.nC v.cC, .slice v.AS v.nS v.cS] 35 (0, 0)) := (hb9.block g (obj_lt HV8.out.1)).trans HV8.out.1
             have H9 := jI (jA hg9 (jA hk9 (jA hfr (HV8.out.2.2.trans (hb9.mono HV8.out.2.2.size)))))
             refine hK.out _ _ (H9.out.1) (fun hHeld2 => ?_)
             clear hK K hHeld
             have hHeld := hHeld2
             clear hHeld2
             clear hg9 hk9 hfr hb9
             have y7 : w9.cell? ⟨b, 7, none⟩ = some (.int .i64 (k.saves : Int)) := by rw [← HZ.out.1]; exact kp_cell H9.out.2.1 7
             refine wpAnyH_ready (rs := [7]) (by kernel_rfl) (by simp) ?_
             refine AllReadyH.cons (o := { dst := Option.some 87, op := Op.load 3 (Operand.tmp 86), type := 3, pos := "stable.go:78", after := #[{ on := 6, ground := Ground.data }], guard := Option.none }) rfl (fun K hK => ?_) AllReadyH.nil
             go_simp
             refine hK.out _ _ (H9.out.1) (fun hHeld2 => ?_)
             clear hK K hHeld
             have hHeld := hHeld2
             clear hHeld2
             refine wpAnyH_take (i := 8) (oi := { dst := Option.some 88, op := Op.binOp BinOp.add 3 (Operand.tmp 87) (Operand.const (Value.int IntKind.i64 1)) 3, type := 3, pos := "stable.go:78", after := #[{ on := 7, ground := Ground.data }], guard := Option.none }) (v := .int .i64 ((k.saves + 1 : Nat) : Int)) rfl (by kernel_rfl) (by kernel_rfl) (by kernel_rfl) (fun _ _ _ h => h) (Or.inl ⟨by rfl, ?_⟩) hHeld ?_
             · intro W hSw
               go_simp
             simp only [Act.put, qA, qB, qC]
             clear y7
             refine wpAnyH_take (i := 11) (oi := { dst := Option.some 91, op := Op.nilCheck (Operand.tmp 80), type := 0, pos := "stable.go:78", after := #[{ on := 0, ground := Ground.data }, { on := 0, ground := Ground.phase }, { on := 1, ground := Ground.textOnly Departure.lateStores }, { on := 2, ground := Ground.textOnly Departure.lateStores }, { on := 3, ground := Ground.phase }, { on := 4, ground := Ground.textOnly Departure.lateStores }, { on := 5, ground := Ground.textOnly Departure.lateStoresUnsure }, { on := 6, ground := Ground.textOnly Departure.lateStoresUnsure }, { on := 7, ground := Ground.phase }, { on := 8, ground := Ground.textOnly Departure.lateStoresUnsure }, { on := 9, ground := Ground.textOnly Departure.lateStores }, { on := 10, ground := Ground.phase }], guard := Option.none }) (v := .pointer (some ⟨b, 0, none⟩)) rfl (by kernel_rfl) (by kernel_rfl) (by kernel_rfl) (fun _ _ _ h => h) (Or.inl ⟨by rfl, ?_⟩) hHeld ?_
             · intro W hSw
               go_simp
             simp only [Act.put, qA, qB, qC]
             refine wpAnyH_take (i := 12) (oi := { dst := Option.some 92, op := Op.fieldAddr 75 (Operand.tmp 91) 2, type := 0, pos := "stable.go:78", after := #[{ on := 11, ground := Ground.data }, { on := 0, ground := Ground.phase }, { on := 1, ground := Ground.textOnly Departure.lateStores }, { on := 2, ground := Ground.textOnly Departure.lateStores }, { on := 3, ground := Ground.phase }, { on := 4, ground := Ground.textOnly Departure.lateStores }, { on := 5, ground := Ground.textOnly Departure.lateStoresUnsure }, { on := 6, ground := Ground.textOnly Departure.lateStoresUnsure }, { on := 7, ground := Ground.phase }, { on := 8, ground := Ground.textOnly Departure.lateStoresUnsure }, { on := 9, ground := Ground.textOnly Departure.lateStores }, { on := 10, ground := Ground.phase }], guard := Option.none }) (v := .pointer (some ⟨b, 6, none⟩)) rfl (by kernel_rfl) (by kernel_rfl) (by kernel_rfl) (fun _ _ _ h => h) (Or.inl ⟨by rfl, ?_⟩) hHeld ?_
             · intro W hSw
               go_simp
             simp only [Act.put, qA, qB, qC]
             have c6 : w9.cell? ⟨b, 6, none⟩ = some (.int .i64 (onI kz.on)) := kp_cell H9.out.2.1 6
             have f6 := frozen_of_row w9 b 6 _ _ H9.out.2.1
             refine wpAnyH_ready (rs := [13]) (by kernel_rfl) (by simp) ?_
             refine AllReadyH.cons (o := { dst := Option.none, op := Op.store 3 (Operand.tmp 92) (Operand.tmp 83), type := 0, pos := "stable.go:78", after := #[{ on := 12, ground := Ground.data }, { on := 3, ground := Ground.data }, { on := 10, ground := Ground.chain }, { on := 0, ground := Ground.phase }, { on := 1, ground := Ground.textOnly Departure.lateStores }, { on := 2, ground := Ground.textOnly Departure.lateStores }, { on := 3, ground := Ground.phase }, { on := 4, ground := Ground.textOnly Departure.lateStores }, { on := 5, ground := Ground.textOnly Departure.lateStoresUnsure }, { on := 6, ground := Ground.textOnly Departure.lateStoresUnsure }, { on := 7, ground := Ground.phase }, { on := 8, ground := Ground.textOnly Departure.lateStoresUnsure }, { on := 9, ground := Ground.textOnly Departure.lateStores }, { on := 10, ground := Ground.phase }], guard := Option.none }) rfl (fun K hK => ?_) AllReadyH.nil
             go_simp
             obtain ⟨F1, hF1, hB1, hO1⟩ := kp_on H9.out.2.1 true
             rw [show onI true = 1 from rfl] at hF1
             rw [← hF1]
             have HF1 := jI (jA hB1 (jA hO1 ((hO1.block g HQ.out.2).trans H9.out.1)))
             clear hF1 hB1 hO1 c6 f6
             refine hK.out _ _ (HF1.out.2.2) (fun hHeld2 => ?_)
             clear hK K hHeld
             have hHeld := hHeld2
             clear hHeld2
             refine wpAnyH_take (i := 14) (oi := { dst := Option.some 93, op := Op.nilCheck (Operand.tmp 81), type := 0, pos := "stable.go:78", after := #[{ on := 1, ground := Ground.data }, { on := 0, ground := Ground.phase }, { on := 1, ground := Ground.phase }, { on := 2, ground := Ground.textOnly Departure.lateStores }, { on := 3, ground := Ground.phase }, { on := 4, ground := Ground.phase }, { on := 5, ground := Ground.phase }, { on := 6, ground := Ground.phase }, { on := 7, ground := Ground.phase }, { on := 8, ground := Ground.phase }, { on := 9, ground := Ground.textOnly Departure.lateStores }, { on := 10, ground := Ground.phase }, { on := 11, ground := Ground.phase }, { on := 12, ground := Ground.phase }, { on := 13, ground := Ground.phase }], guard := Option.none }) (v := .pointer (some ⟨b, 0, none⟩)) rfl (by kernel_rfl) (by kernel_rfl) (by kernel_rfl) (fun _ _ _ h => h) (Or.inl ⟨by rfl, ?_⟩) hHeld ?_
             · intro W hSw
               go_simp
             simp only [Act.put, qA, qB, qC]
             refine wpAnyH_take (i := 15) (oi := { dst := Option.some 94, op := Op.fieldAddr 75 (Operand.tmp 93) 3, type := 0, pos := "stable.go:78", after := #[{ on := 14, ground := Ground.data }, { on := 0, ground := Ground.phase }, { on := 1, ground := Ground.phase }, { on := 2, ground := Ground.textOnly Departure.lateStores }, { on := 3, ground := Ground.phase }, { on := 4, ground := Ground.phase }, { on := 5, ground := Ground.phase }, { on := 6, ground := Ground.phase }, { on := 7, ground := Ground.phase }, { on := 8, ground := Ground.phase }, { on := 9, ground := Ground.textOnly Departure.lateStores }, { on := 10, ground := Ground.phase }, { on := 11, ground := Ground.phase }, { on := 12, ground := Ground.phase }, { on := 13, ground := Ground.phase }], guard := Option.none }) (v := .pointer (some ⟨b, 7, none⟩)) rfl (by kernel_rfl) (by kernel_rfl) (by kernel_rfl) (fun _ _ _ h => h) (Or.inl ⟨by rfl, ?_⟩) hHeld ?_
             · intro W hSw
               go_simp
             simp only [Act.put, qA, qB, qC]
             have c7 : F1.cell? ⟨b, 7, none⟩ = some (.int .i64 (kz.saves : Int)) := kp_cell HF1.out.1 7
             have f7 := frozen_of_row F1 b 7 _ _ HF1.out.1
             refine wpAnyH_ready (rs := [16]) (by kernel_rfl) (by simp) ?_
             refine AllReadyH.cons (o := { dst := Option.none, op := Op.store 3 (Operand.tmp 94) (Operand.tmp 88), type := 0, pos := "stable.go:78", after := #[{ on := 15, ground := Ground.data }, { on := 8, ground := Ground.data }, { on := 13, ground := Ground.chain }, { on := 0, ground := Ground.phase }, { on := 1, ground := Ground.phase }, { on := 2, ground := Ground.textOnly Departure.lateStores }, { on := 3, ground := Ground.phase }, { on := 4, ground := Ground.phase }, { on := 5, ground := Ground.phase }, { on := 6, ground := Ground.phase }, { on := 7, ground := Ground.phase }, { on := 8, ground := Ground.phase }, { on := 9, ground := Ground.textOnly Departure.lateStores }, { on := 10, ground := Ground.phase }, { on := 11, ground := Ground.phase }, { on := 12, ground := Ground.phase }, { on := 13, ground := Ground.phase }], guard := Option.none }) rfl (fun K hK => ?_) AllReadyH.nil
             go_simp
             obtain ⟨F2, hF2, hB2, hO2⟩ := kp_sv HF1.out.1 (k.saves + 1)
             rw [show ((k.saves + 1 : Nat) : Int) = (k.saves : Int) + 1 from by omega] at hF2
             rw [← hF2]
             have HF2 := jI (jA hB2 (jA hO2 ((hO2.block g HQ.out.2).trans HF1.out.2.2)))
             clear hF2 hB2 hO2 c7 f7
             refine hK.out _ _ (HF2.out.2.2) (fun hHeld2 => ?_)
             clear hK K hHeld
             have hHeld := hHeld2
             clear hHeld2
             refine wpAnyH_take (i := 17) (oi := { dst := Option.some 95, op := Op.nilCheck (Operand.tmp 82), type := 0, pos := "stable.go:78", after := #[{ on := 2, ground := Ground.data }, { on := 0, ground := Ground.phase }, { on := 1, ground := Ground.phase }, { on := 2, ground := Ground.phase }, { on := 3, ground := Ground.phase }, { on := 4, ground := Ground.phase }, { on := 5, ground := Ground.phase }, { on := 6, ground := Ground.phase }, { on := 7, ground := Ground.phase }, { on := 8, ground := Ground.phase }, { on := 9, ground := Ground.phase }, { on := 10, ground := Ground.phase }, { on := 11, ground := Ground.phase }, { on := 12, ground := Ground.phase }, { on := 13, ground := Ground.phase }, { on := 14, ground := Ground.phase }, { on := 15, ground := Ground.phase }, { on := 16, ground := Ground.phase }], guard := Option.none }) (v := .pointer (some ⟨b, 0, none⟩)) rfl (by kernel_rfl) (by kernel_rfl) (by kernel_rfl) (fun _ _ _ h => h) (Or.inl ⟨by rfl, ?_⟩) hHeld ?_
             · intro W hSw
               go_simp
             simp only [Act.put, qA, qB, qC]
             refine wpAnyH_take (i := 18) (oi := { dst := Option.some 96, op := Op.fieldAddr 75 (Operand.tmp 95) 4, type := 0, pos := "stable.go:78", after := #[{ on := 17, ground := Ground.data }, { on := 0, ground := Ground.phase }, { on := 1, ground := Ground.phase }, { on := 2, ground := Ground.phase }, { on := 3, ground := Ground.phase }, { on := 4, ground := Ground.phase }, { on := 5, ground := Ground.phase }, { on := 6, ground := Ground.phase }, { on := 7, ground := Ground.phase }, { on := 8, ground := Ground.phase }, { on := 9, ground := Ground.phase }, { on := 10, ground := Ground.phase }, { on := 11, ground := Ground.phase }, { on := 12, ground := Ground.phase }, { on := 13, ground := Ground.phase }, { on := 14, ground := Ground.phase }, { on := 15, ground := Ground.phase }, { on := 16, ground := Ground.phase }], guard := Option.none }) (v := .pointer (some ⟨b, 8, none⟩)) rfl (by kernel_rfl) (by kernel_rfl) (by kernel_rfl) (fun _ _ _ h => h) (Or.inl ⟨by rfl, ?_⟩) hHeld ?_
             · intro W hSw
               go_simp
             simp only [Act.put, qA, qB, qC]
             have c8 : F2.cell? ⟨b, 8, none⟩ = some (.int .i64 kz.kept.term) := kp_cell HF2.out.1 8
             have c9 : F2.cell? ⟨b, 9, none⟩ = some (.int .i64 kz.kept.vote) := kp_cell HF2.out.1 9
             have c10 : F2.cell? ⟨b, 10, none⟩ = some (.int .i64 kz.kept.log.base) := kp_cell HF2.out.1 10
             have c11 : F2.cell? ⟨b, 11, none⟩ = some (.int .i64 kz.kept.log.term) := kp_cell HF2.out.1 11
             have c12 : F2.cell? ⟨b, 12, none⟩ = some (.slice q.AL q.nL q.cL) := kp_cell HF2.out.1 12
             have c13 : F2.cell? ⟨b, 13, none⟩ = some (.slice q.AC q.nC q.cC) := kp_cell HF2.out.1 13
             have c14 : F2.cell? ⟨b, 14, none⟩ = some (.slice q.AS q.nS q.cS) := kp_cell HF2.out.1 14
             have f8 := frozen_of_row F2 b 8 _ _ HF2.out.1; have f9 := frozen_of_row F2 b 9 _ _ HF2.out.1; have f10 := frozen_of_row F2 b 10 _ _ HF2.out.1; have f11 := frozen_of_row F2 b 11 _ _ HF2.out.1; have f12 := frozen_of_row F2 b 12 _ _ HF2.out.1; have f13 := frozen_of_row F2 b 13 _ _ HF2.out.1; have f14 := frozen_of_row F2 b 14 _ _ HF2.out.1
             refine wpAnyH_ready (rs := [19]) (by kernel_rfl) (by simp) ?_
             refine AllReadyH.cons (o := { dst := Option.none, op := Op.store 35 (Operand.tmp 96) (Operand.tmp 90), type := 0, pos := "stable.go:78", after := #[{ on := 18, ground := Ground.data }, { on := 10, ground := Ground.data }, { on := 16, ground := Ground.chain }, { on := 0, ground := Ground.phase }, { on := 1, ground := Ground.phase }, { on := 2, ground := Ground.phase }, { on := 3, ground := Ground.phase }, { on := 4, ground := Ground.phase }, { on := 5, ground := Ground.phase }, { on := 6, ground := Ground.phase }, { on := 7, ground := Ground.phase }, { on := 8, ground := Ground.phase }, { on := 9, ground := Ground.phase }, { on := 10, ground := Ground.phase }, { on := 11, ground := Ground.phase }, { on := 12, ground := Ground.phase }, { on := 13, ground := Ground.phase }, { on := 14, ground := Ground.phase }, { on := 15, ground := Ground.phase }, { on := 16, ground := Ground.phase }], guard := Option.none }) rfl (fun K hK => ?_) AllReadyH.nil
             go_simp
             obtain ⟨F3, hF3, hB3, hO3⟩ := kp_kept HF2.out.1 s v1
             rw [← hF3]
             have HF3 := jI (jA hB3 (jA hO3 ((hO3.block g HQ.out.2).trans HF2.out.2.2)))
             clear hF3 hB3 hO3 c8 c9 c10 c11 c12 c13 c14 f8 f9 f10 f11 f12 f13 f14
             refine hK.out _ _ HF3.out.2.2 (fun hHeld2 => ?_)
             clear hK K hHeld hHeld2
             refine wpAnyH_done (by kernel_rfl) ?_ _
             go_wp2_with fail
             go_ret
             exact save_end HE.out.2.2.1 H7.out H8.out.1 H8.out.2 HZ.out HRR.out HV8.out.2.2.size H9.out.2.2.1 H9.out.2.2.2 HF1.out.2.1 HF2.out.2.1 HF3.out.2.1 HF3.out.1 HE.out.2.1
     | true =>
       have y6 : w6.cell? ⟨b, 6, none⟩ = some (.int .i64 1) := by rw [show (1 : Int) = onI true from rfl, ← hon]; exact hk6.cell 6
       have yT : w6.cell? ⟨b, 5, none⟩ = some (.pointer (some ⟨Q true, 0, none⟩)) := hk6.cell 5
       have CRm := Room_any (hk6.t true).box (by have := (hk6.t true).sizes; omega) (by have := (hk6.t true).sizes; have := (hk6.t true).fin; omega)
       obtain ⟨rz, hrz⟩ : ∃ rz, rz = roomZ (((k.T true).len : Int) - (k.T true).fin) := ⟨_, rfl⟩
       rw [← hrz] at CRm
       have CRm := jI CRm
       have hrm : fitT (k.T true) (encS (k.saves + 1 : Nat) s) = decide ((m : Int) ≤ rz) := by
         unfold fitT roomZ at *
         rw [← HM.out]
         by_cases h5 : ((k.T true).len : Int) - (k.T true).fin < 5
         · rw [if_pos h5] at hrz; rw [decide_eq_false (by omega), decide_eq_false (by omega)]
         · rw [if_neg h5] at hrz; by_cases h6 : (k.T true).fin + 5 + m ≤ (k.T true).len
           · rw [decide_eq_true h6, decide_eq_true (by omega)]
           · rw [decide_eq_false h6, decide_eq_false (by omega)]
       clear hrz
       by_cases hfit : (m : Int) ≤ rz
       · have i1 : ¬ (m : Int) > rz := by omega
         have hfx : (true = k.on ∧ fitT (k.T k.on) (encS (k.saves + 1 : Nat) s) = true) ∨ (true = !k.on ∧ fitT (k.T k.on) (encS (k.saves + 1 : Nat) s) = false ∧ ¬ (k.T (!k.on)).len < 5 + (encS (k.saves + 1 : Nat) s).length) := Or.inl ⟨hon.symm, by rw [hon, hrm, decide_eq_true hfit]⟩
         have hsr := saveR_lay (d := d) HE.out.2.2.2.2.2.1 HBS.out.symm HMB.out.symm true hfx
         have CL := fun w7 (hk7 : KB C w7 S b Q p d k q) hx7 => lay_any hk7 HE.out.2.2.2.2.1 true A6 m c6 (encS (k.saves + 1 : Nat) s) hx7 HM.out (Or.inl ⟨hon.symm, by rw [hrm, decide_eq_true hfit]⟩)
         rw [show onI true = 1 from rfl] at CL
         obtain ⟨dz, kz, ez, hz⟩ : ∃ dz kz ez, layX d k true (encS (k.saves + 1 : Nat) s) = (dz, kz, ez) := ⟨_, _, _, rfl⟩
         have hzk := layX_k d k true (encS (k.saves + 1 : Nat) s)
         simp only [hz] at CL hsr hzk
         have CL := jI CL
         have HRR := jI hsr
         have HZ := jI hzk
         clear hfx hfit hrm hon hz hsr hzk
         go_upto_region 15 with (go_at_call 30; go_must (refine CRm.out.mono ?_; rintro y w7 ⟨rfl, hb7⟩; have H7 := jI (H6.out.2.trans (hb7.mono H6.out.2.size)); have HX7 := jI ((H6.out.1.kept fun x hx _ => hb7.block x hx.2).mono (T' := Av w7 (KS S b Q)) fun x hx => ⟨Nat.lt_of_lt_of_le hx.2 hb7.size, fun e => by have := (HE.out.1.more H5.out).foot x e; have := hx.1; omega⟩); clear hb7))
         go_upto_region 16 with (go_at_call 31; go_must (refine (CL.out _ (HE.out.1.more H7.out) HX7.out).mono ?_; rintro y w8 ⟨S8, rfl, hk8, ht8⟩; have H8 := jI (jA hk8 ht8); clear hk8 ht8))
         clear y6 yT CRm CL i1
         have y15 : w8.cell? ⟨b, 15, none⟩ = some (er kz.dead) := H8.out.1.cell 15
         have f15 := frozen_of_row w8 b 15 _ _ H8.out.1.box
         by_cases he0 : ez = 0
         rotate_left
         · rw [er_ne he0]
           have HE0 := jI he0
           clear he0
           go_wp2_with fail
           obtain ⟨F, hF, hB, hO⟩ := kp_dead H8.out.1.box ez
           rw [er_ne HE0.out] at hF
           rw [← hF]
           go_ret
           have hu := H8.out.1.upd (k' := { kz with dead := ez }) hO hB rfl (H8.out.1.rows.move (fun x hx _ => hO.block x fun e => hx.2 (Or.inr (Or.inr (Or.inr e)))) fun x hx => ⟨by rw [hO.size]; exact hx.1, hx.2⟩) H8.out.1.ok
           rw [HRR.out]
           refine ⟨S8, q, by rw [er_ne HE0.out]; rfl, ?_, (Turn.of_below (HE.out.2.2.1.trans (H7.out.mono HE.out.2.2.1.size))).trans (H8.out.2.trans hu.2)⟩
           unfold finK
           rw [if_neg HE0.out]
           exact hu.1
         · subst he0
           rw [er_zero]
           clear y15 f15
           go_upto_region 19 with fail
           obtain ⟨V8, hV8⟩ : ∃ V, V = w8.drew := ⟨_, rfl⟩
           have hgw : w8.heap[g]? = some (.cells #[.int .i64 s.term, .int .i64 s.vote, .int .i64 s.log.base, .int .i64 s.log.term, .slice v.AL v.nL v.cL, .slice v.AC v.nC v.cC, .slice v.AS v.nS v.cS] 35 (0, 0)) := by
             have hg7 := (H7.out.block g (obj_lt HQ.out.1)).trans HQ.out.1
             exact (H8.out.2.kept.block g (obj_lt hg7) HGW.out).trans hg7
           have hi8 : InS V8 (fun x => x < V8.heap.size) s v := by
             have h7 := HE.out.2.1.move (T' := Av w7 (KS S b Q)) (fun x _ hx => H7.out.block x hx) fun x hx => ⟨Nat.lt_of_lt_of_le hx.1 H7.out.size, hx.2⟩
             rw [hV8]
             exact h7.move (fun x hx hx2 => H8.out.2.kept.block x hx2 hx.2) fun x hx => Nat.lt_of_lt_of_le hx.1 H8.out.2.kept.size
           have CC := scopied_any s v V8 (hi8.inp fun _ h => h) (hi8.ints fun _ h => h) (hi8.bys fun _ h => h) (mayS_parts HMB.out.symm).1 (mayS_parts HMB.out.symm).2.1 hi8.snap
           unfold stV at CC
           have CC := jI CC
           have HV8 := jI (show V8.heap[g]? = some (.cells #[.int .i64 s.term, .int .i64 s.vote, .int .i64 s.log.base, .int .i64 s.log.term, .slice v.AL v.nL v.cL, .slice v.AC v.nC v.cC, .slice v.AS v.nS v.cS] 35 (0, 0)) ∧ V8.heap[b]? = some (.cells (kpC kz q Q) 75 (0, 0)) ∧ Below w8.heap.size w8 V8 from by rw [hV8]; exact ⟨hgw, H8.out.1.box, (Below.refl _ _).drew⟩)
           refine wp_region_held_drew (S := fun W => W.heap[g]? = some (.cells #[.int .i64 s.term, .int .i64 s.vote, .int .i64 s.log.base, .int .i64 s.log.term, .slice v.AL v.nL v.cL, .slice v.AC v.nC v.cC, .slice v.AS v.nS v.cS] 35 (0, 0))) (by kernel_rfl) (by rw [← hV8]; exact HV8.out.1) (fun hHeld => ?_)
           rw [← hV8]
           rw [← hV8] at hHeld
           clear hV8 hgw hi8
           have ksv : IntKind.i64.wrap ((k.saves : Int) + 1) = ((k.saves + 1 : Nat) : Int) := by rw [IntKind.wrap_i64]; have := HE.out.2.2.2.2.2.2; omega
           refine wpAnyH_take (i := 0) (oi := { dst := Option.some 80, op := Op.move (Operand.tmp 0), type := 24, pos := "stable.go:78", after := #[], guard := Option.none }) (v := .pointer (some ⟨b, 0, none⟩)) rfl (by kernel_rfl) (by kernel_rfl) (by kernel_rfl) (fun _ _ _ h => h) (Or.inl ⟨by rfl, ?_⟩) hHeld ?_
           · intro W hSw
             go_simp
           simp only [Act.put, qA, qB, qC]
           refine wpAnyH_take (i := 1) (oi := { dst := Option.some 81, op := Op.move (Operand.tmp 0), type := 24, pos := "stable.go:78", after := #[{ on := 13, ground := Ground.gcOnly Departure.lateStores }], guard := Option.none }) (v := .pointer (some ⟨b, 0, none⟩)) rfl (by kernel_rfl) (by kernel_rfl) (by kernel_rfl) (fun _ _ _ h => h) (Or.inl ⟨by rfl, ?_⟩) hHeld ?_
           · intro W hSw
             go_simp
           simp only [Act.put, qA, qB, qC]
           refine wpAnyH_take (i := 2) (oi := { dst := Option.some 82, op := Op.move (Operand.tmp 0), type := 24, pos := "stable.go:78", after := #[{ on := 16, ground := Ground.gcOnly Departure.lateStores }], guard := Option.none }) (v := .pointer (some ⟨b, 0, none⟩)) rfl (by kernel_rfl) (by kernel_rfl) (by kernel_rfl) (fun _ _ _ h => h) (Or.inl ⟨by rfl, ?_⟩) hHeld ?_
           · intro W hSw
             go_simp
           simp only [Act.put, qA, qB, qC]
           refine wpAnyH_take (i := 3) (oi := { dst := Option.some 83, op := Op.move (Operand.tmp 6), type := 3, pos := "stable.go:78", after := #[], guard := Option.none }) (v := .int .i64 1) rfl (by kernel_rfl) (by kernel_rfl) (by kernel_rfl) (fun _ _ _ h => h) (Or.inl ⟨by rfl, ?_⟩) hHeld ?_
           · intro W hSw
             go_simp
           simp only [Act.put, qA, qB, qC]
           refine wpAnyH_take (i := 4) (oi := { dst := Option.some 84, op := Op.move (Operand.tmp 0), type := 24, pos := "stable.go:78", after := #[], guard := Option.none }) (v := .pointer (some ⟨b, 0, none⟩)) rfl (by kernel_rfl) (by kernel_rfl) (by kernel_rfl) (fun _ _ _ h => h) (Or.inl ⟨by rfl, ?_⟩) hHeld ?_
           · intro W hSw
             go_simp
           simp only [Act.put, qA, qB, qC]
           refine wpAnyH_take (i := 5) (oi := { dst := Option.some 85, op := Op.nilCheck (Operand.tmp 84), type := 0, pos := "stable.go:78", after := #[{ on := 4, ground := Ground.data }], guard := Option.none }) (v := .pointer (some ⟨b, 0, none⟩)) rfl (by kernel_rfl) (by kernel_rfl) (by kernel_rfl) (fun _ _ _ h => h) (Or.inl ⟨by rfl, ?_⟩) hHeld ?_
           · intro W hSw
             go_simp
           simp only [Act.put, qA, qB, qC]
           refine wpAnyH_take (i := 6) (oi := { dst := Option.some 86, op := Op.fieldAddr 75 (Operand.tmp 85) 3, type := 0, pos := "stable.go:78", after := #[{ on := 5, ground := Ground.data }], guard := Option.none }) (v := .pointer (some ⟨b, 7, none⟩)) rfl (by kernel_rfl) (by kernel_rfl) (by kernel_rfl) (fun _ _ _ h => h) (Or.inl ⟨by rfl, ?_⟩) hHeld ?_
           · intro W hSw
             go_simp
           simp only [Act.put, qA, qB, qC]
           refine wpAnyH_take (i := 9) (oi := { dst := Option.some 89, op := Op.load 35 (Operand.tmp 3), type := 35, pos := "stable.go:78", after := #[], guard := Option.none }) (v := .agg #[.int .i64 s.term, .int .i64 s.vote, .int .i64 s.log.base, .int .i64 s.log.term, .slice v.AL v.nL v.cL, .slice v.AC v.nC v.cC, .slice v.AS v.nS v.cS]) rfl (by kernel_rfl) (by kernel_rfl) (by kernel_rfl) (fun _ _ _ h => h) (Or.inl ⟨by rfl, ?_⟩) hHeld ?_
           · intro W hSw
             obtain ⟨z0, z1, z2, z3, z4, z5, z6⟩ := cells7 hSw
             go_simp
           simp only [Act.put, qA, qB, qC]
           refine wpAnyH_ready (rs := [7, 10]) (by kernel_rfl) (by simp) ?_
           refine AllReadyH.cons (o := { dst := Option.some 87, op := Op.load 3 (Operand.tmp 86), type := 3, pos := "stable.go:78", after := #[{ on := 6, ground := Ground.data }], guard := Option.none }) rfl (fun K hK => ?_) (AllReadyH.cons (o := { dst := Option.some 90, op := Op.call { callee := Callee.value (Operand.func 32), args := #[Operand.tmp 89], argTypes := #[35] }, type := 35, pos := "stable.go:78", after := #[{ on := 9, ground := Ground.data }], guard := Option.none }) rfl (fun K hK => ?_) AllReadyH.nil)
           · have y7 : V8.cell? ⟨b, 7, none⟩ = some (.int .i64 (k.saves : Int)) := by rw [← HZ.out.1]; exact kp_cell HV8.out.2.1 7
             go_simp
             refine hK.out _ _ (HV8.out.1) (fun hHeld2 => ?_)
             clear hK K hHeld
             have hHeld := hHeld2
             clear hHeld2
             refine wpAnyH_take (i := 8) (oi := { dst := Option.some 88, op := Op.binOp BinOp.add 3 (Operand.tmp 87) (Operand.const (Value.int IntKind.i64 1)) 3, type := 3, pos := "stable.go:78", after := #[{ on := 7, ground := Ground.data }], guard := Option.none }) (v := .int .i64 ((k.saves + 1 : Nat) : Int)) rfl (by kernel_rfl) (by kernel_rfl) (by kernel_rfl) (fun _ _ _ h => h) (Or.inl ⟨by rfl, ?_⟩) hHeld ?_
             · intro W hSw
               go_simp
             simp only [Act.put, qA, qB, qC]
             clear y7
             refine wpAnyH_ready (rs := [10]) (by kernel_rfl) (by simp) ?_
             refine AllReadyH.cons (o := { dst := Option.some 90, op := Op.call { callee := Callee.value (Operand.func 32), args := #[Operand.tmp 89], argTypes := #[35] }, type := 35, pos := "stable.go:78", after := #[{ on := 9, ground := Ground.data }], guard := Option.none }) rfl (fun K hK => ?_) AllReadyH.nil
             go_simp
             refine CC.out.mono ?_
             rintro y w9 ⟨v1, rfl, hfr, hb9⟩
             have hk9 : w9.heap[b]? = some (.cells (kpC kz q Q) 75 (0, 0)) := (hb9.block b (obj_lt HV8.out.2.1)).trans HV8.out.2.1
             have hg9 : w9.heap[g]? = some (.cells #[.int .i64 s.term, .int .i64 s.vote, .int .i64 s.log.base, .int .i64 s.log.term, .slice v.AL v.nL v.cL, .slice v.AC v.nC v.cC, .slice v.AS v.nS v.cS] 35 (0, 0)) := (hb9.block g (obj_lt HV8.out.1)).trans HV8.out.1
             have H9 := jI (jA hg9 (jA hk9 (jA hfr (HV8.out.2.2.trans (hb9.mono HV8.out.2.2.size)))))
             refine hK.out _ _ (H9.out.1) (fun hHeld2 => ?_)
             clear hK K hHeld
             have hHeld := hHeld2
             clear hHeld2
             clear hg9 hk9 hfr hb9
             refine wpAnyH_take (i := 11) (oi := { dst := Option.some 91, op := Op.nilCheck (Operand.tmp 80), type := 0, pos := "stable.go:78", after := #[{ on := 0, ground := Ground.data }, { on := 0, ground := Ground.phase }, { on := 1, ground := Ground.textOnly Departure.lateStores }, { on := 2, ground := Ground.textOnly Departure.lateStores }, { on := 3, ground := Ground.phase }, { on := 4, ground := Ground.textOnly Departure.lateStores }, { on := 5, ground := Ground.textOnly Departure.lateStoresUnsure }, { on := 6, ground := Ground.textOnly Departure.lateStoresUnsure }, { on := 7, ground := Ground.phase }, { on := 8, ground := Ground.textOnly Departure.lateStoresUnsure }, { on := 9, ground := Ground.textOnly Departure.lateStores }, { on := 10, ground := Ground.phase }], guard := Option.none }) (v := .pointer (some ⟨b, 0, none⟩)) rfl (by kernel_rfl) (by kernel_rfl) (by kernel_rfl) (fun _ _ _ h => h) (Or.inl ⟨by rfl, ?_⟩) hHeld ?_
             · intro W hSw
               go_simp
             simp only [Act.put, qA, qB, qC]
             refine wpAnyH_take (i := 12) (oi := { dst := Option.some 92, op := Op.fieldAddr 75 (Operand.tmp 91) 2, type := 0, pos := "stable.go:78", after := #[{ on := 11, ground := Ground.data }, { on := 0, ground := Ground.phase }, { on := 1, ground := Ground.textOnly Departure.lateStores }, { on := 2, ground := Ground.textOnly Departure.lateStores }, { on := 3, ground := Ground.phase }, { on := 4, ground := Ground.textOnly Departure.lateStores }, { on := 5, ground := Ground.textOnly Departure.lateStoresUnsure }, { on := 6, ground := Ground.textOnly Departure.lateStoresUnsure }, { on := 7, ground := Ground.phase }, { on := 8, ground := Ground.textOnly Departure.lateStoresUnsure }, { on := 9, ground := Ground.textOnly Departure.lateStores }, { on := 10, ground := Ground.phase }], guard := Option.none }) (v := .pointer (some ⟨b, 6, none⟩)) rfl (by kernel_rfl) (by kernel_rfl) (by kernel_rfl) (fun _ _ _ h => h) (Or.inl ⟨by rfl, ?_⟩) hHeld ?_
             · intro W hSw
               go_simp
             simp only [Act.put, qA, qB, qC]
             have c6 : w9.cell? ⟨b, 6, none⟩ = some (.int .i64 (onI kz.on)) := kp_cell H9.out.2.1 6
             have f6 := frozen_of_row w9 b 6 _ _ H9.out.2.1
             refine wpAnyH_ready (rs := [13]) (by kernel_rfl) (by simp) ?_
             refine AllReadyH.cons (o := { dst := Option.none, op := Op.store 3 (Operand.tmp 92) (Operand.tmp 83), type := 0, pos := "stable.go:78", after := #[{ on := 12, ground := Ground.data }, { on := 3, ground := Ground.data }, { on := 10, ground := Ground.chain }, { on := 0, ground := Ground.phase }, { on := 1, ground := Ground.textOnly Departure.lateStores }, { on := 2, ground := Ground.textOnly Departure.lateStores }, { on := 3, ground := Ground.phase }, { on := 4, ground := Ground.textOnly Departure.lateStores }, { on := 5, ground := Ground.textOnly Departure.lateStoresUnsure }, { on := 6, ground := Ground.textOnly Departure.lateStoresUnsure }, { on := 7, ground := Ground.phase }, { on := 8, ground := Ground.textOnly Departure.lateStoresUnsure }, { on := 9, ground := Ground.textOnly Departure.lateStores }, { on := 10, ground := Ground.phase }], guard := Option.none }) rfl (fun K hK => ?_) AllReadyH.nil
             go_simp
             obtain ⟨F1, hF1, hB1, hO1⟩ := kp_on H9.out.2.1 true
             rw [show onI true = 1 from rfl] at hF1
             rw [← hF1]
             have HF1 := jI (jA hB1 (jA hO1 ((hO1.block g HQ.out.2).trans H9.out.1)))
             clear hF1 hB1 hO1 c6 f6
             refine hK.out _ _ (HF1.out.2.2) (fun hHeld2 => ?_)
             clear hK K hHeld
             have hHeld := hHeld2
             clear hHeld2
             refine wpAnyH_take (i := 14) (oi := { dst := Option.some 93, op := Op.nilCheck (Operand.tmp 81), type := 0, pos := "stable.go:78", after := #[{ on := 1, ground := Ground.data }, { on := 0, ground := Ground.phase }, { on := 1, ground := Ground.phase }, { on := 2, ground := Ground.textOnly Departure.lateStores }, { on := 3, ground := Ground.phase }, { on := 4, ground := Ground.phase }, { on := 5, ground := Ground.phase }, { on := 6, ground := Ground.phase }, { on := 7, ground := Ground.phase }, { on := 8, ground := Ground.phase }, { on := 9, ground := Ground.textOnly Departure.lateStores }, { on := 10, ground := Ground.phase }, { on := 11, ground := Ground.phase }, { on := 12, ground := Ground.phase }, { on := 13, ground := Ground.phase }], guard := Option.none }) (v := .pointer (some ⟨b, 0, none⟩)) rfl (by kernel_rfl) (by kernel_rfl) (by kernel_rfl) (fun _ _ _ h => h) (Or.inl ⟨by rfl, ?_⟩) hHeld ?_
             · intro W hSw
               go_simp
             simp only [Act.put, qA, qB, qC]
             refine wpAnyH_take (i := 15) (oi := { dst := Option.some 94, op := Op.fieldAddr 75 (Operand.tmp 93) 3, type := 0, pos := "stable.go:78", after := #[{ on := 14, ground := Ground.data }, { on := 0, ground := Ground.phase }, { on := 1, ground := Ground.phase }, { on := 2, ground := Ground.textOnly Departure.lateStores }, { on := 3, ground := Ground.phase }, { on := 4, ground := Ground.phase }, { on := 5, ground := Ground.phase }, { on := 6, ground := Ground.phase }, { on := 7, ground := Ground.phase }, { on := 8, ground := Ground.phase }, { on := 9, ground := Ground.textOnly Departure.lateStores }, { on := 10, ground := Ground.phase }, { on := 11, ground := Ground.phase }, { on := 12, ground := Ground.phase }, { on := 13, ground := Ground.phase }], guard := Option.none }) (v := .pointer (some ⟨b, 7, none⟩)) rfl (by kernel_rfl) (by kernel_rfl) (by kernel_rfl) (fun _ _ _ h => h) (Or.inl ⟨by rfl, ?_⟩) hHeld ?_
             · intro W hSw
               go_simp
             simp only [Act.put, qA, qB, qC]
             have c7 : F1.cell? ⟨b, 7, none⟩ = some (.int .i64 (kz.saves : Int)) := kp_cell HF1.out.1 7
             have f7 := frozen_of_row F1 b 7 _ _ HF1.out.1
             refine wpAnyH_ready (rs := [16]) (by kernel_rfl) (by simp) ?_
             refine AllReadyH.cons (o := { dst := Option.none, op := Op.store 3 (Operand.tmp 94) (Operand.tmp 88), type := 0, pos := "stable.go:78", after := #[{ on := 15, ground := Ground.data }, { on := 8, ground := Ground.data }, { on := 13, ground := Ground.chain }, { on := 0, ground := Ground.phase }, { on := 1, ground := Ground.phase }, { on := 2, ground := Ground.textOnly Departure.lateStores }, { on := 3, ground := Ground.phase }, { on := 4, ground := Ground.phase }, { on := 5, ground := Ground.phase }, { on := 6, ground := Ground.phase }, { on := 7, ground := Ground.phase }, { on := 8, ground := Ground.phase }, { on := 9, ground := Ground.textOnly Departure.lateStores }, { on := 10, ground := Ground.phase }, { on := 11, ground := Ground.phase }, { on := 12, ground := Ground.phase }, { on := 13, ground := Ground.phase }], guard := Option.none }) rfl (fun K hK => ?_) AllReadyH.nil
             go_simp
             obtain ⟨F2, hF2, hB2, hO2⟩ := kp_sv HF1.out.1 (k.saves + 1)
             rw [show ((k.saves + 1 : Nat) : Int) = (k.saves : Int) + 1 from by omega] at hF2
             rw [← hF2]
             have HF2 := jI (jA hB2 (jA hO2 ((hO2.block g HQ.out.2).trans HF1.out.2.2)))
             clear hF2 hB2 hO2 c7 f7
             refine hK.out _ _ (HF2.out.2.2) (fun hHeld2 => ?_)
             clear hK K hHeld
             have hHeld := hHeld2
             clear hHeld2
             refine wpAnyH_take (i := 17) (oi := { dst := Option.some 95, op := Op.nilCheck (Operand.tmp 82), type := 0, pos := "stable.go:78", after := #[{ on := 2, ground := Ground.data }, { on := 0, ground := Ground.phase }, { on := 1, ground := Ground.phase }, { on := 2, ground := Ground.phase }, { on := 3, ground := Ground.phase }, { on := 4, ground := Ground.phase }, { on := 5, ground := Ground.phase }, { on := 6, ground := Ground.phase }, { on := 7, ground := Ground.phase }, { on := 8, ground := Ground.phase }, { on := 9, ground := Ground.phase }, { on := 10, ground := Ground.phase }, { on := 11, ground := Ground.phase }, { on := 12, ground := Ground.phase }, { on := 13, ground := Ground.phase }, { on := 14, ground := Ground.phase }, { on := 15, ground := Ground.phase }, { on := 16, ground := Ground.phase }], guard := Option.none }) (v := .pointer (some ⟨b, 0, none⟩)) rfl (by kernel_rfl) (by kernel_rfl) (by kernel_rfl) (fun _ _ _ h => h) (Or.inl ⟨by rfl, ?_⟩) hHeld ?_
             · intro W hSw
               go_simp
             simp only [Act.put, qA, qB, qC]
             refine wpAnyH_take (i := 18) (oi := { dst := Option.some 96, op := Op.fieldAddr 75 (Operand.tmp 95) 4, type := 0, pos := "stable.go:78", after := #[{ on := 17, ground := Ground.data }, { on := 0, ground := Ground.phase }, { on := 1, ground := Ground.phase }, { on := 2, ground := Ground.phase }, { on := 3, ground := Ground.phase }, { on := 4, ground := Ground.phase }, { on := 5, ground := Ground.phase }, { on := 6, ground := Ground.phase }, { on := 7, ground := Ground.phase }, { on := 8, ground := Ground.phase }, { on := 9, ground := Ground.phase }, { on := 10, ground := Ground.phase }, { on := 11, ground := Ground.phase }, { on := 12, ground := Ground.phase }, { on := 13, ground := Ground.phase }, { on := 14, ground := Ground.phase }, { on := 15, ground := Ground.phase }, { on := 16, ground := Ground.phase }], guard := Option.none }) (v := .pointer (some ⟨b, 8, none⟩)) rfl (by kernel_rfl) (by kernel_rfl) (by kernel_rfl) (fun _ _ _ h => h) (Or.inl ⟨by rfl, ?_⟩) hHeld ?_
             · intro W hSw
               go_simp
             simp only [Act.put, qA, qB, qC]
             have c8 : F2.cell? ⟨b, 8, none⟩ = some (.int .i64 kz.kept.term) := kp_cell HF2.out.1 8
             have c9 : F2.cell? ⟨b, 9, none⟩ = some (.int .i64 kz.kept.vote) := kp_cell HF2.out.1 9
             have c10 : F2.cell? ⟨b, 10, none⟩ = some (.int .i64 kz.kept.log.base) := kp_cell HF2.out.1 10
             have c11 : F2.cell? ⟨b, 11, none⟩ = some (.int .i64 kz.kept.log.term) := kp_cell HF2.out.1 11
             have c12 : F2.cell? ⟨b, 12, none⟩ = some (.slice q.AL q.nL q.cL) := kp_cell HF2.out.1 12
             have c13 : F2.cell? ⟨b, 13, none⟩ = some (.slice q.AC q.nC q.cC) := kp_cell HF2.out.1 13
             have c14 : F2.cell? ⟨b, 14, none⟩ = some (.slice q.AS q.nS q.cS) := kp_cell HF2.out.1 14
             have f8 := frozen_of_row F2 b 8 _ _ HF2.out.1; have f9 := frozen_of_row F2 b 9 _ _ HF2.out.1; have f10 := frozen_of_row F2 b 10 _ _ HF2.out.1; have f11 := frozen_of_row F2 b 11 _ _ HF2.out.1; have f12 := frozen_of_row F2 b 12 _ _ HF2.out.1; have f13 := frozen_of_row F2 b 13 _ _ HF2.out.1; have f14 := frozen_of_row F2 b 14 _ _ HF2.out.1
             refine wpAnyH_ready (rs := [19]) (by kernel_rfl) (by simp) ?_
             refine AllReadyH.cons (o := { dst := Option.none, op := Op.store 35 (Operand.tmp 96) (Operand.tmp 90), type := 0, pos := "stable.go:78", after := #[{ on := 18, ground := Ground.data }, { on := 10, ground := Ground.data }, { on := 16, ground := Ground.chain }, { on := 0, ground := Ground.phase }, { on := 1, ground := Ground.phase }, { on := 2, ground := Ground.phase }, { on := 3, ground := Ground.phase }, { on := 4, ground := Ground.phase }, { on := 5, ground := Ground.phase }, { on := 6, ground := Ground.phase }, { on := 7, ground := Ground.phase }, { on := 8, ground := Ground.phase }, { on := 9, ground := Ground.phase }, { on := 10, ground := Ground.phase }, { on := 11, ground := Ground.phase }, { on := 12, ground := Ground.phase }, { on := 13, ground := Ground.phase }, { on := 14, ground := Ground.phase }, { on := 15, ground := Ground.phase }, { on := 16, ground := Ground.phase }], guard := Option.none }) rfl (fun K hK => ?_) AllReadyH.nil
             go_simp
             obtain ⟨F3, hF3, hB3, hO3⟩ := kp_kept HF2.out.1 s v1
             rw [← hF3]
             have HF3 := jI (jA hB3 (jA hO3 ((hO3.block g HQ.out.2).trans HF2.out.2.2)))
             clear hF3 hB3 hO3 c8 c9 c10 c11 c12 c13 c14 f8 f9 f10 f11 f12 f13 f14
             refine hK.out _ _ HF3.out.2.2 (fun hHeld2 => ?_)
             clear hK K hHeld hHeld2
             refine wpAnyH_done (by kernel_rfl) ?_ _
             go_wp2_with fail
             go_ret
             exact save_end HE.out.2.2.1 H7.out H8.out.1 H8.out.2 HZ.out HRR.out HV8.out.2.2.size H9.out.2.2.1 H9.out.2.2.2 HF1.out.2.1 HF2.out.2.1 HF3.out.2.1 HF3.out.1 HE.out.2.1
           · go_simp
             refine CC.out.mono ?_
             rintro y w9 ⟨v1, rfl, hfr, hb9⟩
             have hk9 : w9.heap[b]? = some (.cells (kpC kz q Q) 75 (0, 0)) := (hb9.block b (obj_lt HV8.out.2.1)).trans HV8.out.2.1
             have hg9 : w9.heap[g]? = some (.cells #[.int .i64 s.term, .int .i64 s.vote, .int .i64 s.log.base, .int .i64 s.log.term, .slice v.AL v.nL v.cL, .slice v.AC v.nC v.cC, .slice v.AS v.nS v.cS] 35 (0, 0)) := (hb9.block g (obj_lt HV8.out.1)).trans HV8.out.1
             have H9 := jI (jA hg9 (jA hk9 (jA hfr (HV8.out.2.2.trans (hb9.mono HV8.out.2.2.size)))))
             refine hK.out _ _ (H9.out.1) (fun hHeld2 => ?_)
             clear hK K hHeld
             have hHeld := hHeld2
             clear hHeld2
             clear hg9 hk9 hfr hb9
             have y7 : w9.cell? ⟨b, 7, none⟩ = some (.int .i64 (k.saves : Int)) := by rw [← HZ.out.1]; exact kp_cell H9.out.2.1 7
             refine wpAnyH_ready (rs := [7]) (by kernel_rfl) (by simp) ?_
             refine AllReadyH.cons (o := { dst := Option.some 87, op := Op.load 3 (Operand.tmp 86), type := 3, pos := "stable.go:78", after := #[{ on := 6, ground := Ground.data }], guard := Option.none }) rfl (fun K hK => ?_) AllReadyH.nil
             go_simp
             refine hK.out _ _ (H9.out.1) (fun hHeld2 => ?_)
             clear hK K hHeld
             have hHeld := hHeld2
             clear hHeld2
             refine wpAnyH_take (i := 8) (oi := { dst := Option.some 88, op := Op.binOp BinOp.add 3 (Operand.tmp 87) (Operand.const (Value.int IntKind.i64 1)) 3, type := 3, pos := "stable.go:78", after := #[{ on := 7, ground := Ground.data }], guard := Option.none }) (v := .int .i64 ((k.saves + 1 : Nat) : Int)) rfl (by kernel_rfl) (by kernel_rfl) (by kernel_rfl) (fun _ _ _ h => h) (Or.inl ⟨by rfl, ?_⟩) hHeld ?_
             · intro W hSw
               go_simp
             simp only [Act.put, qA, qB, qC]
             clear y7
             refine wpAnyH_take (i := 11) (oi := { dst := Option.some 91, op := Op.nilCheck (Operand.tmp 80), type := 0, pos := "stable.go:78", after := #[{ on := 0, ground := Ground.data }, { on := 0, ground := Ground.phase }, { on := 1, ground := Ground.textOnly Departure.lateStores }, { on := 2, ground := Ground.textOnly Departure.lateStores }, { on := 3, ground := Ground.phase }, { on := 4, ground := Ground.textOnly Departure.lateStores }, { on := 5, ground := Ground.textOnly Departure.lateStoresUnsure }, { on := 6, ground := Ground.textOnly Departure.lateStoresUnsure }, { on := 7, ground := Ground.phase }, { on := 8, ground := Ground.textOnly Departure.lateStoresUnsure }, { on := 9, ground := Ground.textOnly Departure.lateStores }, { on := 10, ground := Ground.phase }], guard := Option.none }) (v := .pointer (some ⟨b, 0, none⟩)) rfl (by kernel_rfl) (by kernel_rfl) (by kernel_rfl) (fun _ _ _ h => h) (Or.inl ⟨by rfl, ?_⟩) hHeld ?_
             · intro W hSw
               go_simp
             simp only [Act.put, qA, qB, qC]
             refine wpAnyH_take (i := 12) (oi := { dst := Option.some 92, op := Op.fieldAddr 75 (Operand.tmp 91) 2, type := 0, pos := "stable.go:78", after := #[{ on := 11, ground := Ground.data }, { on := 0, ground := Ground.phase }, { on := 1, ground := Ground.textOnly Departure.lateStores }, { on := 2, ground := Ground.textOnly Departure.lateStores }, { on := 3, ground := Ground.phase }, { on := 4, ground := Ground.textOnly Departure.lateStores }, { on := 5, ground := Ground.textOnly Departure.lateStoresUnsure }, { on := 6, ground := Ground.textOnly Departure.lateStoresUnsure }, { on := 7, ground := Ground.phase }, { on := 8, ground := Ground.textOnly Departure.lateStoresUnsure }, { on := 9, ground := Ground.textOnly Departure.lateStores }, { on := 10, ground := Ground.phase }], guard := Option.none }) (v := .pointer (some ⟨b, 6, none⟩)) rfl (by kernel_rfl) (by kernel_rfl) (by kernel_rfl) (fun _ _ _ h => h) (Or.inl ⟨by rfl, ?_⟩) hHeld ?_
             · intro W hSw
               go_simp
             simp only [Act.put, qA, qB, qC]
             have c6 : w9.cell? ⟨b, 6, none⟩ = some (.int .i64 (onI kz.on)) := kp_cell H9.out.2.1 6
             have f6 := frozen_of_row w9 b 6 _ _ H9.out.2.1
             refine wpAnyH_ready (rs := [13]) (by kernel_rfl) (by simp) ?_
             refine AllReadyH.cons (o := { dst := Option.none, op := Op.store 3 (Operand.tmp 92) (Operand.tmp 83), type := 0, pos := "stable.go:78", after := #[{ on := 12, ground := Ground.data }, { on := 3, ground := Ground.data }, { on := 10, ground := Ground.chain }, { on := 0, ground := Ground.phase }, { on := 1, ground := Ground.textOnly Departure.lateStores }, { on := 2, ground := Ground.textOnly Departure.lateStores }, { on := 3, ground := Ground.phase }, { on := 4, ground := Ground.textOnly Departure.lateStores }, { on := 5, ground := Ground.textOnly Departure.lateStoresUnsure }, { on := 6, ground := Ground.textOnly Departure.lateStoresUnsure }, { on := 7, ground := Ground.phase }, { on := 8, ground := Ground.textOnly Departure.lateStoresUnsure }, { on := 9, ground := Ground.textOnly Departure.lateStores }, { on := 10, ground := Ground.phase }], guard := Option.none }) rfl (fun K hK => ?_) AllReadyH.nil
             go_simp
             obtain ⟨F1, hF1, hB1, hO1⟩ := kp_on H9.out.2.1 true
             rw [show onI true = 1 from rfl] at hF1
             rw [← hF1]
             have HF1 := jI (jA hB1 (jA hO1 ((hO1.block g HQ.out.2).trans H9.out.1)))
             clear hF1 hB1 hO1 c6 f6
             refine hK.out _ _ (HF1.out.2.2) (fun hHeld2 => ?_)
             clear hK K hHeld
             have hHeld := hHeld2
             clear hHeld2
             refine wpAnyH_take (i := 14) (oi := { dst := Option.some 93, op := Op.nilCheck (Operand.tmp 81), type := 0, pos := "stable.go:78", after := #[{ on := 1, ground := Ground.data }, { on := 0, ground := Ground.phase }, { on := 1, ground := Ground.phase }, { on := 2, ground := Ground.textOnly Departure.lateStores }, { on := 3, ground := Ground.phase }, { on := 4, ground := Ground.phase }, { on := 5, ground := Ground.phase }, { on := 6, ground := Ground.phase }, { on := 7, ground := Ground.phase }, { on := 8, ground := Ground.phase }, { on := 9, ground := Ground.textOnly Departure.lateStores }, { on := 10, ground := Ground.phase }, { on := 11, ground := Ground.phase }, { on := 12, ground := Ground.phase }, { on := 13, ground := Ground.phase }], guard := Option.none }) (v := .pointer (some ⟨b, 0, none⟩)) rfl (by kernel_rfl) (by kernel_rfl) (by kernel_rfl) (fun _ _ _ h => h) (Or.inl ⟨by rfl, ?_⟩) hHeld ?_
             · intro W hSw
               go_simp
             simp only [Act.put, qA, qB, qC]
             refine wpAnyH_take (i := 15) (oi := { dst := Option.some 94, op := Op.fieldAddr 75 (Operand.tmp 93) 3, type := 0, pos := "stable.go:78", after := #[{ on := 14, ground := Ground.data }, { on := 0, ground := Ground.phase }, { on := 1, ground := Ground.phase }, { on := 2, ground := Ground.textOnly Departure.lateStores }, { on := 3, ground := Ground.phase }, { on := 4, ground := Ground.phase }, { on := 5, ground := Ground.phase }, { on := 6, ground := Ground.phase }, { on := 7, ground := Ground.phase }, { on := 8, ground := Ground.phase }, { on := 9, ground := Ground.textOnly Departure.lateStores }, { on := 10, ground := Ground.phase }, { on := 11, ground := Ground.phase }, { on := 12, ground := Ground.phase }, { on := 13, ground := Ground.phase }], guard := Option.none }) (v := .pointer (some ⟨b, 7, none⟩)) rfl (by kernel_rfl) (by kernel_rfl) (by kernel_rfl) (fun _ _ _ h => h) (Or.inl ⟨by rfl, ?_⟩) hHeld ?_
             · intro W hSw
               go_simp
             simp only [Act.put, qA, qB, qC]
             have c7 : F1.cell? ⟨b, 7, none⟩ = some (.int .i64 (kz.saves : Int)) := kp_cell HF1.out.1 7
             have f7 := frozen_of_row F1 b 7 _ _ HF1.out.1
             refine wpAnyH_ready (rs := [16]) (by kernel_rfl) (by simp) ?_
             refine AllReadyH.cons (o := { dst := Option.none, op := Op.store 3 (Operand.tmp 94) (Operand.tmp 88), type := 0, pos := "stable.go:78", after := #[{ on := 15, ground := Ground.data }, { on := 8, ground := Ground.data }, { on := 13, ground := Ground.chain }, { on := 0, ground := Ground.phase }, { on := 1, ground := Ground.phase }, { on := 2, ground := Ground.textOnly Departure.lateStores }, { on := 3, ground := Ground.phase }, { on := 4, ground := Ground.phase }, { on := 5, ground := Ground.phase }, { on := 6, ground := Ground.phase }, { on := 7, ground := Ground.phase }, { on := 8, ground := Ground.phase }, { on := 9, ground := Ground.textOnly Departure.lateStores }, { on := 10, ground := Ground.phase }, { on := 11, ground := Ground.phase }, { on := 12, ground := Ground.phase }, { on := 13, ground := Ground.phase }], guard := Option.none }) rfl (fun K hK => ?_) AllReadyH.nil
             go_simp
             obtain ⟨F2, hF2, hB2, hO2⟩ := kp_sv HF1.out.1 (k.saves + 1)
             rw [show ((k.saves + 1 : Nat) : Int) = (k.saves : Int) + 1 from by omega] at hF2
             rw [← hF2]
             have HF2 := jI (jA hB2 (jA hO2 ((hO2.block g HQ.out.2).trans HF1.out.2.2)))
             clear hF2 hB2 hO2 c7 f7
             refine hK.out _ _ (HF2.out.2.2) (fun hHeld2 => ?_)
             clear hK K hHeld
             have hHeld := hHeld2
             clear hHeld2
             refine wpAnyH_take (i := 17) (oi := { dst := Option.some 95, op := Op.nilCheck (Operand.tmp 82), type := 0, pos := "stable.go:78", after := #[{ on := 2, ground := Ground.data }, { on := 0, ground := Ground.phase }, { on := 1, ground := Ground.phase }, { on := 2, ground := Ground.phase }, { on := 3, ground := Ground.phase }, { on := 4, ground := Ground.phase }, { on := 5, ground := Ground.phase }, { on := 6, ground := Ground.phase }, { on := 7, ground := Ground.phase }, { on := 8, ground := Ground.phase }, { on := 9, ground := Ground.phase }, { on := 10, ground := Ground.phase }, { on := 11, ground := Ground.phase }, { on := 12, ground := Ground.phase }, { on := 13, ground := Ground.phase }, { on := 14, ground := Ground.phase }, { on := 15, ground := Ground.phase }, { on := 16, ground := Ground.phase }], guard := Option.none }) (v := .pointer (some ⟨b, 0, none⟩)) rfl (by kernel_rfl) (by kernel_rfl) (by kernel_rfl) (fun _ _ _ h => h) (Or.inl ⟨by rfl, ?_⟩) hHeld ?_
             · intro W hSw
               go_simp
             simp only [Act.put, qA, qB, qC]
             refine wpAnyH_take (i := 18) (oi := { dst := Option.some 96, op := Op.fieldAddr 75 (Operand.tmp 95) 4, type := 0, pos := "stable.go:78", after := #[{ on := 17, ground := Ground.data }, { on := 0, ground := Ground.phase }, { on := 1, ground := Ground.phase }, { on := 2, ground := Ground.phase }, { on := 3, ground := Ground.phase }, { on := 4, ground := Ground.phase }, { on := 5, ground := Ground.phase }, { on := 6, ground := Ground.phase }, { on := 7, ground := Ground.phase }, { on := 8, ground := Ground.phase }, { on := 9, ground := Ground.phase }, { on := 10, ground := Ground.phase }, { on := 11, ground := Ground.phase }, { on := 12, ground := Ground.phase }, { on := 13, ground := Ground.phase }, { on := 14, ground := Ground.phase }, { on := 15, ground := Ground.phase }, { on := 16, ground := Ground.phase }], guard := Option.none }) (v := .pointer (some ⟨b, 8, none⟩)) rfl (by kernel_rfl) (by kernel_rfl) (by kernel_rfl) (fun _ _ _ h => h) (Or.inl ⟨by rfl, ?_⟩) hHeld ?_
             · intro W hSw
               go_simp
             simp only [Act.put, qA, qB, qC]
             have c8 : F2.cell? ⟨b, 8, none⟩ = some (.int .i64 kz.kept.term) := kp_cell HF2.out.1 8
             have c9 : F2.cell? ⟨b, 9, none⟩ = some (.int .i64 kz.kept.vote) := kp_cell HF2.out.1 9
             have c10 : F2.cell? ⟨b, 10, none⟩ = some (.int .i64 kz.kept.log.base) := kp_cell HF2.out.1 10
             have c11 : F2.cell? ⟨b, 11, none⟩ = some (.int .i64 kz.kept.log.term) := kp_cell HF2.out.1 11
             have c12 : F2.cell? ⟨b, 12, none⟩ = some (.slice q.AL q.nL q.cL) := kp_cell HF2.out.1 12
             have c13 : F2.cell? ⟨b, 13, none⟩ = some (.slice q.AC q.nC q.cC) := kp_cell HF2.out.1 13
             have c14 : F2.cell? ⟨b, 14, none⟩ = some (.slice q.AS q.nS q.cS) := kp_cell HF2.out.1 14
             have f8 := frozen_of_row F2 b 8 _ _ HF2.out.1; have f9 := frozen_of_row F2 b 9 _ _ HF2.out.1; have f10 := frozen_of_row F2 b 10 _ _ HF2.out.1; have f11 := frozen_of_row F2 b 11 _ _ HF2.out.1; have f12 := frozen_of_row F2 b 12 _ _ HF2.out.1; have f13 := frozen_of_row F2 b 13 _ _ HF2.out.1; have f14 := frozen_of_row F2 b 14 _ _ HF2.out.1
             refine wpAnyH_ready (rs := [19]) (by kernel_rfl) (by simp) ?_
             refine AllReadyH.cons (o := { dst := Option.none, op := Op.store 35 (Operand.tmp 96) (Operand.tmp 90), type := 0, pos := "stable.go:78", after := #[{ on := 18, ground := Ground.data }, { on := 10, ground := Ground.data }, { on := 16, ground := Ground.chain }, { on := 0, ground := Ground.phase }, { on := 1, ground := Ground.phase }, { on := 2, ground := Ground.phase }, { on := 3, ground := Ground.phase }, { on := 4, ground := Ground.phase }, { on := 5, ground := Ground.phase }, { on := 6, ground := Ground.phase }, { on := 7, ground := Ground.phase }, { on := 8, ground := Ground.phase }, { on := 9, ground := Ground.phase }, { on := 10, ground := Ground.phase }, { on := 11, ground := Ground.phase }, { on := 12, ground := Ground.phase }, { on := 13, ground := Ground.phase }, { on := 14, ground := Ground.phase }, { on := 15, ground := Ground.phase }, { on := 16, ground := Ground.phase }], guard := Option.none }) rfl (fun K hK => ?_) AllReadyH.nil
             go_simp
             obtain ⟨F3, hF3, hB3, hO3⟩ := kp_kept HF2.out.1 s v1
             rw [← hF3]
             have HF3 := jI (jA hB3 (jA hO3 ((hO3.block g HQ.out.2).trans HF2.out.2.2)))
             clear hF3 hB3 hO3 c8 c9 c10 c11 c12 c13 c14 f8 f9 f10 f11 f12 f13 f14
             refine hK.out _ _ HF3.out.2.2 (fun hHeld2 => ?_)
             clear hK K hHeld hHeld2
             refine wpAnyH_done (by kernel_rfl) ?_ _
             go_wp2_with fail
             go_ret
             exact save_end HE.out.2.2.1 H7.out H8.out.1 H8.out.2 HZ.out HRR.out HV8.out.2.2.size H9.out.2.2.1 H9.out.2.2.2 HF1.out.2.1 HF2.out.2.1 HF3.out.2.1 HF3.out.1 HE.out.2.1
       · have i1 : (m : Int) > rz := by omega
         obtain ⟨lz, hlz⟩ : ∃ lz : Int, lz = ((k.T false).len : Int) := ⟨_, rfl⟩
         have hls := (hk6.t false).sizes
         have iw : IntKind.i64.wrap (lz - 5) = lz - 5 := IntWalk.i64_in _ (by omega)
         have HLZ := jI hlz
         by_cases hg : lz - 5 < (m : Int)
         · have hr : saveR d k s = (d, k, 10) := by
             unfold saveR
             rw [if_neg (by rw [HE.out.2.2.2.2.2.1]; decide), if_neg (by rw [← HBS.out]; decide), if_neg (by rw [← HMB.out]; decide), hon, if_neg (by rw [hrm, decide_eq_false hfit]; decide), if_pos (by show (k.T false).len < _; rw [← HM.out]; omega)]
           have HRR := jI hr
           have i2 : (m : Int) > lz - 5 := by omega
           clear hr hlz hls hon hrm hfit hg
           go_wp2_with (go_at_call 30; go_must (refine CRm.out.mono ?_; rintro y w7 ⟨rfl, hb7⟩; have H7 := jI (H6.out.2.trans (hb7.mono H6.out.2.size)); have HX7 := jI ((H6.out.1.kept fun x hx _ => hb7.block x hx.2).mono (T' := Av w7 (KS S b Q)) fun x hx => ⟨Nat.lt_of_lt_of_le hx.2 hb7.size, fun e => by have := (HE.out.1.more H5.out).foot x e; have := hx.1; omega⟩); have yL : w7.cell? ⟨b, 1, none⟩ = some (.int .i64 lz) := (by rw [HLZ.out]; exact (HE.out.1.more H7.out).cell 1); clear hb7))
           go_ret
           rw [HRR.out]
           exact ⟨S, q, by rw [er_ne (show (10 : Nat) ≠ 0 by decide)]; rfl, HE.out.1.more H7.out, Turn.of_below (HE.out.2.2.1.trans (H7.out.mono HE.out.2.2.1.size))⟩
         have i2 : ¬ (m : Int) > lz - 5 := by omega
         have hfx : (false = k.on ∧ fitT (k.T k.on) (encS (k.saves + 1 : Nat) s) = true) ∨ (false = !k.on ∧ fitT (k.T k.on) (encS (k.saves + 1 : Nat) s) = false ∧ ¬ (k.T (!k.on)).len < 5 + (encS (k.saves + 1 : Nat) s).length) := Or.inr ⟨by rw [hon]; rfl, by rw [hon, hrm, decide_eq_false hfit], by rw [hon]; show ¬ (k.T false).len < _; rw [← HM.out]; omega⟩
         have hsr := saveR_lay (d := d) HE.out.2.2.2.2.2.1 HBS.out.symm HMB.out.symm false hfx
         have CL := fun w7 (hk7 : KB C w7 S b Q p d k q) hx7 => lay_any hk7 HE.out.2.2.2.2.1 false A6 m c6 (encS (k.saves + 1 : Nat) s) hx7 HM.out (Or.inr ⟨by rw [hon]; rfl, by rw [← HM.out]; omega⟩)
         rw [show onI false = 0 from rfl] at CL
         obtain ⟨dz, kz, ez, hz⟩ : ∃ dz kz ez, layX d k false (encS (k.saves + 1 : Nat) s) = (dz, kz, ez) := ⟨_, _, _, rfl⟩
         have hzk := layX_k d k false (encS (k.saves + 1 : Nat) s)
         simp only [hz] at CL hsr hzk
         have CL := jI CL
         have HRR := jI hsr
         have HZ := jI hzk
         clear hfx hfit hrm hon hz hsr hzk hg hlz hls
         go_upto_region 15 with (go_at_call 30; go_must (refine CRm.out.mono ?_; rintro y w7 ⟨rfl, hb7⟩; have H7 := jI (H6.out.2.trans (hb7.mono H6.out.2.size)); have HX7 := jI ((H6.out.1.kept fun x hx _ => hb7.block x hx.2).mono (T' := Av w7 (KS S b Q)) fun x hx => ⟨Nat.lt_of_lt_of_le hx.2 hb7.size, fun e => by have := (HE.out.1.more H5.out).foot x e; have := hx.1; omega⟩); have yL : w7.cell? ⟨b, 1, none⟩ = some (.int .i64 lz) := (by rw [HLZ.out]; exact (HE.out.1.more H7.out).cell 1); clear hb7))
         go_upto_region 16 with (go_at_call 31; go_must (refine (CL.out _ (HE.out.1.more H7.out) HX7.out).mono ?_; rintro y w8 ⟨S8, rfl, hk8, ht8⟩; have H8 := jI (jA hk8 ht8); clear hk8 ht8))
         clear y6 yT CRm CL i1 i2
         have y15 : w8.cell? ⟨b, 15, none⟩ = some (er kz.dead) := H8.out.1.cell 15
         have f15 := frozen_of_row w8 b 15 _ _ H8.out.1.box
         by_cases he0 : ez = 0
         rotate_left
         · rw [er_ne he0]
           have HE0 := jI he0
           clear he0
           go_wp2_with fail
           obtain ⟨F, hF, hB, hO⟩ := kp_dead H8.out.1.box ez
           rw [er_ne HE0.out] at hF
           rw [← hF]
           go_ret
           have hu := H8.out.1.upd (k' := { kz with dead := ez }) hO hB rfl (H8.out.1.rows.move (fun x hx _ => hO.block x fun e => hx.2 (Or.inr (Or.inr (Or.inr e)))) fun x hx => ⟨by rw [hO.size]; exact hx.1, hx.2⟩) H8.out.1.ok
           rw [HRR.out]
           refine ⟨S8, q, by rw [er_ne HE0.out]; rfl, ?_, (Turn.of_below (HE.out.2.2.1.trans (H7.out.mono HE.out.2.2.1.size))).trans (H8.out.2.trans hu.2)⟩
           unfold finK
           rw [if_neg HE0.out]
           exact hu.1
         · subst he0
           rw [er_zero]
           clear y15 f15
           go_upto_region 19 with fail
           obtain ⟨V8, hV8⟩ : ∃ V, V = w8.drew := ⟨_, rfl⟩
           have hgw : w8.heap[g]? = some (.cells #[.int .i64 s.term, .int .i64 s.vote, .int .i64 s.log.base, .int .i64 s.log.term, .slice v.AL v.nL v.cL, .slice v.AC v.nC v.cC, .slice v.AS v.nS v.cS] 35 (0, 0)) := by
             have hg7 := (H7.out.block g (obj_lt HQ.out.1)).trans HQ.out.1
             exact (H8.out.2.kept.block g (obj_lt hg7) HGW.out).trans hg7
           have hi8 : InS V8 (fun x => x < V8.heap.size) s v := by
             have h7 := HE.out.2.1.move (T' := Av w7 (KS S b Q)) (fun x _ hx => H7.out.block x hx) fun x hx => ⟨Nat.lt_of_lt_of_le hx.1 H7.out.size, hx.2⟩
             rw [hV8]
             exact h7.move (fun x hx hx2 => H8.out.2.kept.block x hx2 hx.2) fun x hx => Nat.lt_of_lt_of_le hx.1 H8.out.2.kept.size
           have CC := scopied_any s v V8 (hi8.inp fun _ h => h) (hi8.ints fun _ h => h) (hi8.bys fun _ h => h) (mayS_parts HMB.out.symm).1 (mayS_parts HMB.out.symm).2.1 hi8.snap
           unfold stV at CC
           have CC := jI CC
           have HV8 := jI (show V8.heap[g]? = some (.cells #[.int .i64 s.term, .int .i64 s.vote, .int .i64 s.log.base, .int .i64 s.log.term, .slice v.AL v.nL v.cL, .slice v.AC v.nC v.cC, .slice v.AS v.nS v.cS] 35 (0, 0)) ∧ V8.heap[b]? = some (.cells (kpC kz q Q) 75 (0, 0)) ∧ Below w8.heap.size w8 V8 from by rw [hV8]; exact ⟨hgw, H8.out.1.box, (Below.refl _ _).drew⟩)
           refine wp_region_held_drew (S := fun W => W.heap[g]? = some (.cells #[.int .i64 s.term, .int .i64 s.vote, .int .i64 s.log.base, .int .i64 s.log.term, .slice v.AL v.nL v.cL, .slice v.AC v.nC v.cC, .slice v.AS v.nS v.cS] 35 (0, 0))) (by kernel_rfl) (by rw [← hV8]; exact HV8.out.1) (fun hHeld => ?_)
           rw [← hV8]
           rw [← hV8] at hHeld
           clear hV8 hgw hi8
           have ksv : IntKind.i64.wrap ((k.saves : Int) + 1) = ((k.saves + 1 : Nat) : Int) := by rw [IntKind.wrap_i64]; have := HE.out.2.2.2.2.2.2; omega
           refine wpAnyH_take (i := 0) (oi := { dst := Option.some 80, op := Op.move (Operand.tmp 0), type := 24, pos := "stable.go:78", after := #[], guard := Option.none }) (v := .pointer (some ⟨b, 0, none⟩)) rfl (by kernel_rfl) (by kernel_rfl) (by kernel_rfl) (fun _ _ _ h => h) (Or.inl ⟨by rfl, ?_⟩) hHeld ?_
           · intro W hSw
             go_simp
           simp only [Act.put, qA, qB, qC]
           refine wpAnyH_take (i := 1) (oi := { dst := Option.some 81, op := Op.move (Operand.tmp 0), type := 24, pos := "stable.go:78", after := #[{ on := 13, ground := Ground.gcOnly Departure.lateStores }], guard := Option.none }) (v := .pointer (some ⟨b, 0, none⟩)) rfl (by kernel_rfl) (by kernel_rfl) (by kernel_rfl) (fun _ _ _ h => h) (Or.inl ⟨by rfl, ?_⟩) hHeld ?_
           · intro W hSw
             go_simp
           simp only [Act.put, qA, qB, qC]
           refine wpAnyH_take (i := 2) (oi := { dst := Option.some 82, op := Op.move (Operand.tmp 0), type := 24, pos := "stable.go:78", after := #[{ on := 16, ground := Ground.gcOnly Departure.lateStores }], guard := Option.none }) (v := .pointer (some ⟨b, 0, none⟩)) rfl (by kernel_rfl) (by kernel_rfl) (by kernel_rfl) (fun _ _ _ h => h) (Or.inl ⟨by rfl, ?_⟩) hHeld ?_
           · intro W hSw
             go_simp
           simp only [Act.put, qA, qB, qC]
           refine wpAnyH_take (i := 3) (oi := { dst := Option.some 83, op := Op.move (Operand.tmp 6), type := 3, pos := "stable.go:78", after := #[], guard := Option.none }) (v := .int .i64 0) rfl (by kernel_rfl) (by kernel_rfl) (by kernel_rfl) (fun _ _ _ h => h) (Or.inl ⟨by rfl, ?_⟩) hHeld ?_
           · intro W hSw
             go_simp
           simp only [Act.put, qA, qB, qC]
           refine wpAnyH_take (i := 4) (oi := { dst := Option.some 84, op := Op.move (Operand.tmp 0), type := 24, pos := "stable.go:78", after := #[], guard := Option.none }) (v := .pointer (some ⟨b, 0, none⟩)) rfl (by kernel_rfl) (by kernel_rfl) (by kernel_rfl) (fun _ _ _ h => h) (Or.inl ⟨by rfl, ?_⟩) hHeld ?_
           · intro W hSw
             go_simp
           simp only [Act.put, qA, qB, qC]
           refine wpAnyH_take (i := 5) (oi := { dst := Option.some 85, op := Op.nilCheck (Operand.tmp 84), type := 0, pos := "stable.go:78", after := #[{ on := 4, ground := Ground.data }], guard := Option.none }) (v := .pointer (some ⟨b, 0, none⟩)) rfl (by kernel_rfl) (by kernel_rfl) (by kernel_rfl) (fun _ _ _ h => h) (Or.inl ⟨by rfl, ?_⟩) hHeld ?_
           · intro W hSw
             go_simp
           simp only [Act.put, qA, qB, qC]
           refine wpAnyH_take (i := 6) (oi := { dst := Option.some 86, op := Op.fieldAddr 75 (Operand.tmp 85) 3, type := 0, pos := "stable.go:78", after := #[{ on := 5, ground := Ground.data }], guard := Option.none }) (v := .pointer (some ⟨b, 7, none⟩)) rfl (by kernel_rfl) (by kernel_rfl) (by kernel_rfl) (fun _ _ _ h => h) (Or.inl ⟨by rfl, ?_⟩) hHeld ?_
           · intro W hSw
             go_simp
           simp only [Act.put, qA, qB, qC]
           refine wpAnyH_take (i := 9) (oi := { dst := Option.some 89, op := Op.load 35 (Operand.tmp 3), type := 35, pos := "stable.go:78", after := #[], guard := Option.none }) (v := .agg #[.int .i64 s.term, .int .i64 s.vote, .int .i64 s.log.base, .int .i64 s.log.term, .slice v.AL v.nL v.cL, .slice v.AC v.nC v.cC, .slice v.AS v.nS v.cS]) rfl (by kernel_rfl) (by kernel_rfl) (by kernel_rfl) (fun _ _ _ h => h) (Or.inl ⟨by rfl, ?_⟩) hHeld ?_
           · intro W hSw
             obtain ⟨z0, z1, z2, z3, z4, z5, z6⟩ := cells7 hSw
             go_simp
           simp only [Act.put, qA, qB, qC]
           refine wpAnyH_ready (rs := [7, 10]) (by kernel_rfl) (by simp) ?_
           refine AllReadyH.cons (o := { dst := Option.some 87, op := Op.load 3 (Operand.tmp 86), type := 3, pos := "stable.go:78", after := #[{ on := 6, ground := Ground.data }], guard := Option.none }) rfl (fun K hK => ?_) (AllReadyH.cons (o := { dst := Option.some 90, op := Op.call { callee := Callee.value (Operand.func 32), args := #[Operand.tmp 89], argTypes := #[35] }, type := 35, pos := "stable.go:78", after := #[{ on := 9, ground := Ground.data }], guard := Option.none }) rfl (fun K hK => ?_) AllReadyH.nil)
           · have y7 : V8.cell? ⟨b, 7, none⟩ = some (.int .i64 (k.saves : Int)) := by rw [← HZ.out.1]; exact kp_cell HV8.out.2.1 7
             go_simp
             refine hK.out _ _ (HV8.out.1) (fun hHeld2 => ?_)
             clear hK K hHeld
             have hHeld := hHeld2
             clear hHeld2
             refine wpAnyH_take (i := 8) (oi := { dst := Option.some 88, op := Op.binOp BinOp.add 3 (Operand.tmp 87) (Operand.const (Value.int IntKind.i64 1)) 3, type := 3, pos := "stable.go:78", after := #[{ on := 7, ground := Ground.data }], guard := Option.none }) (v := .int .i64 ((k.saves + 1 : Nat) : Int)) rfl (by kernel_rfl) (by kernel_rfl) (by kernel_rfl) (fun _ _ _ h => h) (Or.inl ⟨by rfl, ?_⟩) hHeld ?_
             · intro W hSw
               go_simp
             simp only [Act.put, qA, qB, qC]
             clear y7
             refine wpAnyH_ready (rs := [10]) (by kernel_rfl) (by simp) ?_
             refine AllReadyH.cons (o := { dst := Option.some 90, op := Op.call { callee := Callee.value (Operand.func 32), args := #[Operand.tmp 89], argTypes := #[35] }, type := 35, pos := "stable.go:78", after := #[{ on := 9, ground := Ground.data }], guard := Option.none }) rfl (fun K hK => ?_) AllReadyH.nil
             go_simp
             refine CC.out.mono ?_
             rintro y w9 ⟨v1, rfl, hfr, hb9⟩
             have hk9 : w9.heap[b]? = some (.cells (kpC kz q Q) 75 (0, 0)) := (hb9.block b (obj_lt HV8.out.2.1)).trans HV8.out.2.1
             have hg9 : w9.heap[g]? = some (.cells #[.int .i64 s.term, .int .i64 s.vote, .int .i64 s.log.base, .int .i64 s.log.term, .slice v.AL v.nL v.cL, .slice v.AC v.nC v.cC, .slice v.AS v.nS v.cS] 35 (0, 0)) := (hb9.block g (obj_lt HV8.out.1)).trans HV8.out.1
             have H9 := jI (jA hg9 (jA hk9 (jA hfr (HV8.out.2.2.trans (hb9.mono HV8.out.2.2.size)))))
             refine hK.out _ _ (H9.out.1) (fun hHeld2 => ?_)
             clear hK K hHeld
             have hHeld := hHeld2
             clear hHeld2
             clear hg9 hk9 hfr hb9
             refine wpAnyH_take (i := 11) (oi := { dst := Option.some 91, op := Op.nilCheck (Operand.tmp 80), type := 0, pos := "stable.go:78", after := #[{ on := 0, ground := Ground.data }, { on := 0, ground := Ground.phase }, { on := 1, ground := Ground.textOnly Departure.lateStores }, { on := 2, ground := Ground.textOnly Departure.lateStores }, { on := 3, ground := Ground.phase }, { on := 4, ground := Ground.textOnly Departure.lateStores }, { on := 5, ground := Ground.textOnly Departure.lateStoresUnsure }, { on := 6, ground := Ground.textOnly Departure.lateStoresUnsure }, { on := 7, ground := Ground.phase }, { on := 8, ground := Ground.textOnly Departure.lateStoresUnsure }, { on := 9, ground := Ground.textOnly Departure.lateStores }, { on := 10, ground := Ground.phase }], guard := Option.none }) (v := .pointer (some ⟨b, 0, none⟩)) rfl (by kernel_rfl) (by kernel_rfl) (by kernel_rfl) (fun _ _ _ h => h) (Or.inl ⟨by rfl, ?_⟩) hHeld ?_
             · intro W hSw
               go_simp
             simp only [Act.put, qA, qB, qC]
             refine wpAnyH_take (i := 12) (oi := { dst := Option.some 92, op := Op.fieldAddr 75 (Operand.tmp 91) 2, type := 0, pos := "stable.go:78", after := #[{ on := 11, ground := Ground.data }, { on := 0, ground := Ground.phase }, { on := 1, ground := Ground.textOnly Departure.lateStores }, { on := 2, ground := Ground.textOnly Departure.lateStores }, { on := 3, ground := Ground.phase }, { on := 4, ground := Ground.textOnly Departure.lateStores }, { on := 5, ground := Ground.textOnly Departure.lateStoresUnsure }, { on := 6, ground := Ground.textOnly Departure.lateStoresUnsure }, { on := 7, ground := Ground.phase }, { on := 8, ground := Ground.textOnly Departure.lateStoresUnsure }, { on := 9, ground := Ground.textOnly Departure.lateStores }, { on := 10, ground := Ground.phase }], guard := Option.none }) (v := .pointer (some ⟨b, 6, none⟩)) rfl (by kernel_rfl) (by kernel_rfl) (by kernel_rfl) (fun _ _ _ h => h) (Or.inl ⟨by rfl, ?_⟩) hHeld ?_
             · intro W hSw
               go_simp
             simp only [Act.put, qA, qB, qC]
             have c6 : w9.cell? ⟨b, 6, none⟩ = some (.int .i64 (onI kz.on)) := kp_cell H9.out.2.1 6
             have f6 := frozen_of_row w9 b 6 _ _ H9.out.2.1
             refine wpAnyH_ready (rs := [13]) (by kernel_rfl) (by simp) ?_
             refine AllReadyH.cons (o := { dst := Option.none, op := Op.store 3 (Operand.tmp 92) (Operand.tmp 83), type := 0, pos := "stable.go:78", after := #[{ on := 12, ground := Ground.data }, { on := 3, ground := Ground.data }, { on := 10, ground := Ground.chain }, { on := 0, ground := Ground.phase }, { on := 1, ground := Ground.textOnly Departure.lateStores }, { on := 2, ground := Ground.textOnly Departure.lateStores }, { on := 3, ground := Ground.phase }, { on := 4, ground := Ground.textOnly Departure.lateStores }, { on := 5, ground := Ground.textOnly Departure.lateStoresUnsure }, { on := 6, ground := Ground.textOnly Departure.lateStoresUnsure }, { on := 7, ground := Ground.phase }, { on := 8, ground := Ground.textOnly Departure.lateStoresUnsure }, { on := 9, ground := Ground.textOnly Departure.lateStores }, { on := 10, ground := Ground.phase }], guard := Option.none }) rfl (fun K hK => ?_) AllReadyH.nil
             go_simp
             obtain ⟨F1, hF1, hB1, hO1⟩ := kp_on H9.out.2.1 false
             rw [show onI false = 0 from rfl] at hF1
             rw [← hF1]
             have HF1 := jI (jA hB1 (jA hO1 ((hO1.block g HQ.out.2).trans H9.out.1)))
             clear hF1 hB1 hO1 c6 f6
             refine hK.out _ _ (HF1.out.2.2) (fun hHeld2 => ?_)
             clear hK K hHeld
             have hHeld := hHeld2
             clear hHeld2
             refine wpAnyH_take (i := 14) (oi := { dst := Option.some 93, op := Op.nilCheck (Operand.tmp 81), type := 0, pos := "stable.go:78", after := #[{ on := 1, ground := Ground.data }, { on := 0, ground := Ground.phase }, { on := 1, ground := Ground.phase }, { on := 2, ground := Ground.textOnly Departure.lateStores }, { on := 3, ground := Ground.phase }, { on := 4, ground := Ground.phase }, { on := 5, ground := Ground.phase }, { on := 6, ground := Ground.phase }, { on := 7, ground := Ground.phase }, { on := 8, ground := Ground.phase }, { on := 9, ground := Ground.textOnly Departure.lateStores }, { on := 10, ground := Ground.phase }, { on := 11, ground := Ground.phase }, { on := 12, ground := Ground.phase }, { on := 13, ground := Ground.phase }], guard := Option.none }) (v := .pointer (some ⟨b, 0, none⟩)) rfl (by kernel_rfl) (by kernel_rfl) (by kernel_rfl) (fun _ _ _ h => h) (Or.inl ⟨by rfl, ?_⟩) hHeld ?_
             · intro W hSw
               go_simp
             simp only [Act.put, qA, qB, qC]
             refine wpAnyH_take (i := 15) (oi := { dst := Option.some 94, op := Op.fieldAddr 75 (Operand.tmp 93) 3, type := 0, pos := "stable.go:78", after := #[{ on := 14, ground := Ground.data }, { on := 0, ground := Ground.phase }, { on := 1, ground := Ground.phase }, { on := 2, ground := Ground.textOnly Departure.lateStores }, { on := 3, ground := Ground.phase }, { on := 4, ground := Ground.phase }, { on := 5, ground := Ground.phase }, { on := 6, ground := Ground.phase }, { on := 7, ground := Ground.phase }, { on := 8, ground := Ground.phase }, { on := 9, ground := Ground.textOnly Departure.lateStores }, { on := 10, ground := Ground.phase }, { on := 11, ground := Ground.phase }, { on := 12, ground := Ground.phase }, { on := 13, ground := Ground.phase }], guard := Option.none }) (v := .pointer (some ⟨b, 7, none⟩)) rfl (by kernel_rfl) (by kernel_rfl) (by kernel_rfl) (fun _ _ _ h => h) (Or.inl ⟨by rfl, ?_⟩) hHeld ?_
             · intro W hSw
               go_simp
             simp only [Act.put, qA, qB, qC]
             have c7 : F1.cell? ⟨b, 7, none⟩ = some (.int .i64 (kz.saves : Int)) := kp_cell HF1.out.1 7
             have f7 := frozen_of_row F1 b 7 _ _ HF1.out.1
             refine wpAnyH_ready (rs := [16]) (by kernel_rfl) (by simp) ?_
             refine AllReadyH.cons (o := { dst := Option.none, op := Op.store 3 (Operand.tmp 94) (Operand.tmp 88), type := 0, pos := "stable.go:78", after := #[{ on := 15, ground := Ground.data }, { on := 8, ground := Ground.data }, { on := 13, ground := Ground.chain }, { on := 0, ground := Ground.phase }, { on := 1, ground := Ground.phase }, { on := 2, ground := Ground.textOnly Departure.lateStores }, { on := 3, ground := Ground.phase }, { on := 4, ground := Ground.phase }, { on := 5, ground := Ground.phase }, { on := 6, ground := Ground.phase }, { on := 7, ground := Ground.phase }, { on := 8, ground := Ground.phase }, { on := 9, ground := Ground.textOnly Departure.lateStores }, { on := 10, ground := Ground.phase }, { on := 11, ground := Ground.phase }, { on := 12, ground := Ground.phase }, { on := 13, ground := Ground.phase }], guard := Option.none }) rfl (fun K hK => ?_) AllReadyH.nil
             go_simp
             obtain ⟨F2, hF2, hB2, hO2⟩ := kp_sv HF1.out.1 (k.saves + 1)
             rw [show ((k.saves + 1 : Nat) : Int) = (k.saves : Int) + 1 from by omega] at hF2
             rw [← hF2]
             have HF2 := jI (jA hB2 (jA hO2 ((hO2.block g HQ.out.2).trans HF1.out.2.2)))
             clear hF2 hB2 hO2 c7 f7
             refine hK.out _ _ (HF2.out.2.2) (fun hHeld2 => ?_)
             clear hK K hHeld
             have hHeld := hHeld2
             clear hHeld2
             refine wpAnyH_take (i := 17) (oi := { dst := Option.some 95, op := Op.nilCheck (Operand.tmp 82), type := 0, pos := "stable.go:78", after := #[{ on := 2, ground := Ground.data }, { on := 0, ground := Ground.phase }, { on := 1, ground := Ground.phase }, { on := 2, ground := Ground.phase }, { on := 3, ground := Ground.phase }, { on := 4, ground := Ground.phase }, { on := 5, ground := Ground.phase }, { on := 6, ground := Ground.phase }, { on := 7, ground := Ground.phase }, { on := 8, ground := Ground.phase }, { on := 9, ground := Ground.phase }, { on := 10, ground := Ground.phase }, { on := 11, ground := Ground.phase }, { on := 12, ground := Ground.phase }, { on := 13, ground := Ground.phase }, { on := 14, ground := Ground.phase }, { on := 15, ground := Ground.phase }, { on := 16, ground := Ground.phase }], guard := Option.none }) (v := .pointer (some ⟨b, 0, none⟩)) rfl (by kernel_rfl) (by kernel_rfl) (by kernel_rfl) (fun _ _ _ h => h) (Or.inl ⟨by rfl, ?_⟩) hHeld ?_
             · intro W hSw
               go_simp
             simp only [Act.put, qA, qB, qC]
             refine wpAnyH_take (i := 18) (oi := { dst := Option.some 96, op := Op.fieldAddr 75 (Operand.tmp 95) 4, type := 0, pos := "stable.go:78", after := #[{ on := 17, ground := Ground.data }, { on := 0, ground := Ground.phase }, { on := 1, ground := Ground.phase }, { on := 2, ground := Ground.phase }, { on := 3, ground := Ground.phase }, { on := 4, ground := Ground.phase }, { on := 5, ground := Ground.phase }, { on := 6, ground := Ground.phase }, { on := 7, ground := Ground.phase }, { on := 8, ground := Ground.phase }, { on := 9, ground := Ground.phase }, { on := 10, ground := Ground.phase }, { on := 11, ground := Ground.phase }, { on := 12, ground := Ground.phase }, { on := 13, ground := Ground.phase }, { on := 14, ground := Ground.phase }, { on := 15, ground := Ground.phase }, { on := 16, ground := Ground.phase }], guard := Option.none }) (v := .pointer (some ⟨b, 8, none⟩)) rfl (by kernel_rfl) (by kernel_rfl) (by kernel_rfl) (fun _ _ _ h => h) (Or.inl ⟨by rfl, ?_⟩) hHeld ?_
             · intro W hSw
               go_simp
             simp only [Act.put, qA, qB, qC]
             have c8 : F2.cell? ⟨b, 8, none⟩ = some (.int .i64 kz.kept.term) := kp_cell HF2.out.1 8
             have c9 : F2.cell? ⟨b, 9, none⟩ = some (.int .i64 kz.kept.vote) := kp_cell HF2.out.1 9
             have c10 : F2.cell? ⟨b, 10, none⟩ = some (.int .i64 kz.kept.log.base) := kp_cell HF2.out.1 10
             have c11 : F2.cell? ⟨b, 11, none⟩ = some (.int .i64 kz.kept.log.term) := kp_cell HF2.out.1 11
             have c12 : F2.cell? ⟨b, 12, none⟩ = some (.slice q.AL q.nL q.cL) := kp_cell HF2.out.1 12
             have c13 : F2.cell? ⟨b, 13, none⟩ = some (.slice q.AC q.nC q.cC) := kp_cell HF2.out.1 13
             have c14 : F2.cell? ⟨b, 14, none⟩ = some (.slice q.AS q.nS q.cS) := kp_cell HF2.out.1 14
             have f8 := frozen_of_row F2 b 8 _ _ HF2.out.1; have f9 := frozen_of_row F2 b 9 _ _ HF2.out.1; have f10 := frozen_of_row F2 b 10 _ _ HF2.out.1; have f11 := frozen_of_row F2 b 11 _ _ HF2.out.1; have f12 := frozen_of_row F2 b 12 _ _ HF2.out.1; have f13 := frozen_of_row F2 b 13 _ _ HF2.out.1; have f14 := frozen_of_row F2 b 14 _ _ HF2.out.1
             refine wpAnyH_ready (rs := [19]) (by kernel_rfl) (by simp) ?_
             refine AllReadyH.cons (o := { dst := Option.none, op := Op.store 35 (Operand.tmp 96) (Operand.tmp 90), type := 0, pos := "stable.go:78", after := #[{ on := 18, ground := Ground.data }, { on := 10, ground := Ground.data }, { on := 16, ground := Ground.chain }, { on := 0, ground := Ground.phase }, { on := 1, ground := Ground.phase }, { on := 2, ground := Ground.phase }, { on := 3, ground := Ground.phase }, { on := 4, ground := Ground.phase }, { on := 5, ground := Ground.phase }, { on := 6, ground := Ground.phase }, { on := 7, ground := Ground.phase }, { on := 8, ground := Ground.phase }, { on := 9, ground := Ground.phase }, { on := 10, ground := Ground.phase }, { on := 11, ground := Ground.phase }, { on := 12, ground := Ground.phase }, { on := 13, ground := Ground.phase }, { on := 14, ground := Ground.phase }, { on := 15, ground := Ground.phase }, { on := 16, ground := Ground.phase }], guard := Option.none }) rfl (fun K hK => ?_) AllReadyH.nil
             go_simp
             obtain ⟨F3, hF3, hB3, hO3⟩ := kp_kept HF2.out.1 s v1
             rw [← hF3]
             have HF3 := jI (jA hB3 (jA hO3 ((hO3.block g HQ.out.2).trans HF2.out.2.2)))
             clear hF3 hB3 hO3 c8 c9 c10 c11 c12 c13 c14 f8 f9 f10 f11 f12 f13 f14
             refine hK.out _ _ HF3.out.2.2 (fun hHeld2 => ?_)
             clear hK K hHeld hHeld2
             refine wpAnyH_done (by kernel_rfl) ?_ _
             go_wp2_with fail
             go_ret
             exact save_end HE.out.2.2.1 H7.out H8.out.1 H8.out.2 HZ.out HRR.out HV8.out.2.2.size H9.out.2.2.1 H9.out.2.2.2 HF1.out.2.1 HF2.out.2.1 HF3.out.2.1 HF3.out.1 HE.out.2.1
           · go_simp
             refine CC.out.mono ?_
             rintro y w9 ⟨v1, rfl, hfr, hb9⟩
             have hk9 : w9.heap[b]? = some (.cells (kpC kz q Q) 75 (0, 0)) := (hb9.block b (obj_lt HV8.out.2.1)).trans HV8.out.2.1
             have hg9 : w9.heap[g]? = some (.cells #[.int .i64 s.term, .int .i64 s.vote, .int .i64 s.log.base, .int .i64 s.log.term, .slice v.AL v.nL v.cL, .slice v.AC v.nC v.cC, .slice v.AS v.nS v.cS] 35 (0, 0)) := (hb9.block g (obj_lt HV8.out.1)).trans HV8.out.1
             have H9 := jI (jA hg9 (jA hk9 (jA hfr (HV8.out.2.2.trans (hb9.mono HV8.out.2.2.size)))))
             refine hK.out _ _ (H9.out.1) (fun hHeld2 => ?_)
             clear hK K hHeld
             have hHeld := hHeld2
             clear hHeld2
             clear hg9 hk9 hfr hb9
             have y7 : w9.cell? ⟨b, 7, none⟩ = some (.int .i64 (k.saves : Int)) := by rw [← HZ.out.1]; exact kp_cell H9.out.2.1 7
             refine wpAnyH_ready (rs := [7]) (by kernel_rfl) (by simp) ?_
             refine AllReadyH.cons (o := { dst := Option.some 87, op := Op.load 3 (Operand.tmp 86), type := 3, pos := "stable.go:78", after := #[{ on := 6, ground := Ground.data }], guard := Option.none }) rfl (fun K hK => ?_) AllReadyH.nil
             go_simp
             refine hK.out _ _ (H9.out.1) (fun hHeld2 => ?_)
             clear hK K hHeld
             have hHeld := hHeld2
             clear hHeld2
             refine wpAnyH_take (i := 8) (oi := { dst := Option.some 88, op := Op.binOp BinOp.add 3 (Operand.tmp 87) (Operand.const (Value.int IntKind.i64 1)) 3, type := 3, pos := "stable.go:78", after := #[{ on := 7, ground := Ground.data }], guard := Option.none }) (v := .int .i64 ((k.saves + 1 : Nat) : Int)) rfl (by kernel_rfl) (by kernel_rfl) (by kernel_rfl) (fun _ _ _ h => h) (Or.inl ⟨by rfl, ?_⟩) hHeld ?_
             · intro W hSw
               go_simp
             simp only [Act.put, qA, qB, qC]
             clear y7
             refine wpAnyH_take (i := 11) (oi := { dst := Option.some 91, op := Op.nilCheck (Operand.tmp 80), type := 0, pos := "stable.go:78", after := #[{ on := 0, ground := Ground.data }, { on := 0, ground := Ground.phase }, { on := 1, ground := Ground.textOnly Departure.lateStores }, { on := 2, ground := Ground.textOnly Departure.lateStores }, { on := 3, ground := Ground.phase }, { on := 4, ground := Ground.textOnly Departure.lateStores }, { on := 5, ground := Ground.textOnly Departure.lateStoresUnsure }, { on := 6, ground := Ground.textOnly Departure.lateStoresUnsure }, { on := 7, ground := Ground.phase }, { on := 8, ground := Ground.textOnly Departure.lateStoresUnsure }, { on := 9, ground := Ground.textOnly Departure.lateStores }, { on := 10, ground := Ground.phase }], guard := Option.none }) (v := .pointer (some ⟨b, 0, none⟩)) rfl (by kernel_rfl) (by kernel_rfl) (by kernel_rfl) (fun _ _ _ h => h) (Or.inl ⟨by rfl, ?_⟩) hHeld ?_
             · intro W hSw
               go_simp
             simp only [Act.put, qA, qB, qC]
             refine wpAnyH_take (i := 12) (oi := { dst := Option.some 92, op := Op.fieldAddr 75 (Operand.tmp 91) 2, type := 0, pos := "stable.go:78", after := #[{ on := 11, ground := Ground.data }, { on := 0, ground := Ground.phase }, { on := 1, ground := Ground.textOnly Departure.lateStores }, { on := 2, ground := Ground.textOnly Departure.lateStores }, { on := 3, ground := Ground.phase }, { on := 4, ground := Ground.textOnly Departure.lateStores }, { on := 5, ground := Ground.textOnly Departure.lateStoresUnsure }, { on := 6, ground := Ground.textOnly Departure.lateStoresUnsure }, { on := 7, ground := Ground.phase }, { on := 8, ground := Ground.textOnly Departure.lateStoresUnsure }, { on := 9, ground := Ground.textOnly Departure.lateStores }, { on := 10, ground := Ground.phase }], guard := Option.none }) (v := .pointer (some ⟨b, 6, none⟩)) rfl (by kernel_rfl) (by kernel_rfl) (by kernel_rfl) (fun _ _ _ h => h) (Or.inl ⟨by rfl, ?_⟩) hHeld ?_
             · intro W hSw
               go_simp
             simp only [Act.put, qA, qB, qC]
             have c6 : w9.cell? ⟨b, 6, none⟩ = some (.int .i64 (onI kz.on)) := kp_cell H9.out.2.1 6
             have f6 := frozen_of_row w9 b 6 _ _ H9.out.2.1
             refine wpAnyH_ready (rs := [13]) (by kernel_rfl) (by simp) ?_
             refine AllReadyH.cons (o := { dst := Option.none, op := Op.store 3 (Operand.tmp 92) (Operand.tmp 83), type := 0, pos := "stable.go:78", after := #[{ on := 12, ground := Ground.data }, { on := 3, ground := Ground.data }, { on := 10, ground := Ground.chain }, { on := 0, ground := Ground.phase }, { on := 1, ground := Ground.textOnly Departure.lateStores }, { on := 2, ground := Ground.textOnly Departure.lateStores }, { on := 3, ground := Ground.phase }, { on := 4, ground := Ground.textOnly Departure.lateStores }, { on := 5, ground := Ground.textOnly Departure.lateStoresUnsure }, { on := 6, ground := Ground.textOnly Departure.lateStoresUnsure }, { on := 7, ground := Ground.phase }, { on := 8, ground := Ground.textOnly Departure.lateStoresUnsure }, { on := 9, ground := Ground.textOnly Departure.lateStores }, { on := 10, ground := Ground.phase }], guard := Option.none }) rfl (fun K hK => ?_) AllReadyH.nil
             go_simp
             obtain ⟨F1, hF1, hB1, hO1⟩ := kp_on H9.out.2.1 false
             rw [show onI false = 0 from rfl] at hF1
             rw [← hF1]
             have HF1 := jI (jA hB1 (jA hO1 ((hO1.block g HQ.out.2).trans H9.out.1)))
             clear hF1 hB1 hO1 c6 f6
             refine hK.out _ _ (HF1.out.2.2) (fun hHeld2 => ?_)
             clear hK K hHeld
             have hHeld := hHeld2
             clear hHeld2
             refine wpAnyH_take (i := 14) (oi := { dst := Option.some 93, op := Op.nilCheck (Operand.tmp 81), type := 0, pos := "stable.go:78", after := #[{ on := 1, ground := Ground.data }, { on := 0, ground := Ground.phase }, { on := 1, ground := Ground.phase }, { on := 2, ground := Ground.textOnly Departure.lateStores }, { on := 3, ground := Ground.phase }, { on := 4, ground := Ground.phase }, { on := 5, ground := Ground.phase }, { on := 6, ground := Ground.phase }, { on := 7, ground := Ground.phase }, { on := 8, ground := Ground.phase }, { on := 9, ground := Ground.textOnly Departure.lateStores }, { on := 10, ground := Ground.phase }, { on := 11, ground := Ground.phase }, { on := 12, ground := Ground.phase }, { on := 13, ground := Ground.phase }], guard := Option.none }) (v := .pointer (some ⟨b, 0, none⟩)) rfl (by kernel_rfl) (by kernel_rfl) (by kernel_rfl) (fun _ _ _ h => h) (Or.inl ⟨by rfl, ?_⟩) hHeld ?_
             · intro W hSw
               go_simp
             simp only [Act.put, qA, qB, qC]
             refine wpAnyH_take (i := 15) (oi := { dst := Option.some 94, op := Op.fieldAddr 75 (Operand.tmp 93) 3, type := 0, pos := "stable.go:78", after := #[{ on := 14, ground := Ground.data }, { on := 0, ground := Ground.phase }, { on := 1, ground := Ground.phase }, { on := 2, ground := Ground.textOnly Departure.lateStores }, { on := 3, ground := Ground.phase }, { on := 4, ground := Ground.phase }, { on := 5, ground := Ground.phase }, { on := 6, ground := Ground.phase }, { on := 7, ground := Ground.phase }, { on := 8, ground := Ground.phase }, { on := 9, ground := Ground.textOnly Departure.lateStores }, { on := 10, ground := Ground.phase }, { on := 11, ground := Ground.phase }, { on := 12, ground := Ground.phase }, { on := 13, ground := Ground.phase }], guard := Option.none }) (v := .pointer (some ⟨b, 7, none⟩)) rfl (by kernel_rfl) (by kernel_rfl) (by kernel_rfl) (fun _ _ _ h => h) (Or.inl ⟨by rfl, ?_⟩) hHeld ?_
             · intro W hSw
               go_simp
             simp only [Act.put, qA, qB, qC]
             have c7 : F1.cell? ⟨b, 7, none⟩ = some (.int .i64 (kz.saves : Int)) := kp_cell HF1.out.1 7
             have f7 := frozen_of_row F1 b 7 _ _ HF1.out.1
             refine wpAnyH_ready (rs := [16]) (by kernel_rfl) (by simp) ?_
             refine AllReadyH.cons (o := { dst := Option.none, op := Op.store 3 (Operand.tmp 94) (Operand.tmp 88), type := 0, pos := "stable.go:78", after := #[{ on := 15, ground := Ground.data }, { on := 8, ground := Ground.data }, { on := 13, ground := Ground.chain }, { on := 0, ground := Ground.phase }, { on := 1, ground := Ground.phase }, { on := 2, ground := Ground.textOnly Departure.lateStores }, { on := 3, ground := Ground.phase }, { on := 4, ground := Ground.phase }, { on := 5, ground := Ground.phase }, { on := 6, ground := Ground.phase }, { on := 7, ground := Ground.phase }, { on := 8, ground := Ground.phase }, { on := 9, ground := Ground.textOnly Departure.lateStores }, { on := 10, ground := Ground.phase }, { on := 11, ground := Ground.phase }, { on := 12, ground := Ground.phase }, { on := 13, ground := Ground.phase }], guard := Option.none }) rfl (fun K hK => ?_) AllReadyH.nil
             go_simp
             obtain ⟨F2, hF2, hB2, hO2⟩ := kp_sv HF1.out.1 (k.saves + 1)
             rw [show ((k.saves + 1 : Nat) : Int) = (k.saves : Int) + 1 from by omega] at hF2
             rw [← hF2]
             have HF2 := jI (jA hB2 (jA hO2 ((hO2.block g HQ.out.2).trans HF1.out.2.2)))
             clear hF2 hB2 hO2 c7 f7
             refine hK.out _ _ (HF2.out.2.2) (fun hHeld2 => ?_)
             clear hK K hHeld
             have hHeld := hHeld2
             clear hHeld2
             refine wpAnyH_take (i := 17) (oi := { dst := Option.some 95, op := Op.nilCheck (Operand.tmp 82), type := 0, pos := "stable.go:78", after := #[{ on := 2, ground := Ground.data }, { on := 0, ground := Ground.phase }, { on := 1, ground := Ground.phase }, { on := 2, ground := Ground.phase }, { on := 3, ground := Ground.phase }, { on := 4, ground := Ground.phase }, { on := 5, ground := Ground.phase }, { on := 6, ground := Ground.phase }, { on := 7, ground := Ground.phase }, { on := 8, ground := Ground.phase }, { on := 9, ground := Ground.phase }, { on := 10, ground := Ground.phase }, { on := 11, ground := Ground.phase }, { on := 12, ground := Ground.phase }, { on := 13, ground := Ground.phase }, { on := 14, ground := Ground.phase }, { on := 15, ground := Ground.phase }, { on := 16, ground := Ground.phase }], guard := Option.none }) (v := .pointer (some ⟨b, 0, none⟩)) rfl (by kernel_rfl) (by kernel_rfl) (by kernel_rfl) (fun _ _ _ h => h) (Or.inl ⟨by rfl, ?_⟩) hHeld ?_
             · intro W hSw
               go_simp
             simp only [Act.put, qA, qB, qC]
             refine wpAnyH_take (i := 18) (oi := { dst := Option.some 96, op := Op.fieldAddr 75 (Operand.tmp 95) 4, type := 0, pos := "stable.go:78", after := #[{ on := 17, ground := Ground.data }, { on := 0, ground := Ground.phase }, { on := 1, ground := Ground.phase }, { on := 2, ground := Ground.phase }, { on := 3, ground := Ground.phase }, { on := 4, ground := Ground.phase }, { on := 5, ground := Ground.phase }, { on := 6, ground := Ground.phase }, { on := 7, ground := Ground.phase }, { on := 8, ground := Ground.phase }, { on := 9, ground := Ground.phase }, { on := 10, ground := Ground.phase }, { on := 11, ground := Ground.phase }, { on := 12, ground := Ground.phase }, { on := 13, ground := Ground.phase }, { on := 14, ground := Ground.phase }, { on := 15, ground := Ground.phase }, { on := 16, ground := Ground.phase }], guard := Option.none }) (v := .pointer (some ⟨b, 8, none⟩)) rfl (by kernel_rfl) (by kernel_rfl) (by kernel_rfl) (fun _ _ _ h => h) (Or.inl ⟨by rfl, ?_⟩) hHeld ?_
             · intro W hSw
               go_simp
             simp only [Act.put, qA, qB, qC]
             have c8 : F2.cell? ⟨b, 8, none⟩ = some (.int .i64 kz.kept.term) := kp_cell HF2.out.1 8
             have c9 : F2.cell? ⟨b, 9, none⟩ = some (.int .i64 kz.kept.vote) := kp_cell HF2.out.1 9
             have c10 : F2.cell? ⟨b, 10, none⟩ = some (.int .i64 kz.kept.log.base) := kp_cell HF2.out.1 10
             have c11 : F2.cell? ⟨b, 11, none⟩ = some (.int .i64 kz.kept.log.term) := kp_cell HF2.out.1 11
             have c12 : F2.cell? ⟨b, 12, none⟩ = some (.slice q.AL q.nL q.cL) := kp_cell HF2.out.1 12
             have c13 : F2.cell? ⟨b, 13, none⟩ = some (.slice q.AC q.nC q.cC) := kp_cell HF2.out.1 13
             have c14 : F2.cell? ⟨b, 14, none⟩ = some (.slice q.AS q.nS q.cS) := kp_cell HF2.out.1 14
             have f8 := frozen_of_row F2 b 8 _ _ HF2.out.1; have f9 := frozen_of_row F2 b 9 _ _ HF2.out.1; have f10 := frozen_of_row F2 b 10 _ _ HF2.out.1; have f11 := frozen_of_row F2 b 11 _ _ HF2.out.1; have f12 := frozen_of_row F2 b 12 _ _ HF2.out.1; have f13 := frozen_of_row F2 b 13 _ _ HF2.out.1; have f14 := frozen_of_row F2 b 14 _ _ HF2.out.1
             refine wpAnyH_ready (rs := [19]) (by kernel_rfl) (by simp) ?_
             refine AllReadyH.cons (o := { dst := Option.none, op := Op.store 35 (Operand.tmp 96) (Operand.tmp 90), type := 0, pos := "stable.go:78", after := #[{ on := 18, ground := Ground.data }, { on := 10, ground := Ground.data }, { on := 16, ground := Ground.chain }, { on := 0, ground := Ground.phase }, { on := 1, ground := Ground.phase }, { on := 2, ground := Ground.phase }, { on := 3, ground := Ground.phase }, { on := 4, ground := Ground.phase }, { on := 5, ground := Ground.phase }, { on := 6, ground := Ground.phase }, { on := 7, ground := Ground.phase }, { on := 8, ground := Ground.phase }, { on := 9, ground := Ground.phase }, { on := 10, ground := Ground.phase }, { on := 11, ground := Ground.phase }, { on := 12, ground := Ground.phase }, { on := 13, ground := Ground.phase }, { on := 14, ground := Ground.phase }, { on := 15, ground := Ground.phase }, { on := 16, ground := Ground.phase }], guard := Option.none }) rfl (fun K hK => ?_) AllReadyH.nil
             go_simp
             obtain ⟨F3, hF3, hB3, hO3⟩ := kp_kept HF2.out.1 s v1
             rw [← hF3]
             have HF3 := jI (jA hB3 (jA hO3 ((hO3.block g HQ.out.2).trans HF2.out.2.2)))
             clear hF3 hB3 hO3 c8 c9 c10 c11 c12 c13 c14 f8 f9 f10 f11 f12 f13 f14
             refine hK.out _ _ HF3.out.2.2 (fun hHeld2 => ?_)
             clear hK K hHeld hHeld2
             refine wpAnyH_done (by kernel_rfl) ?_ _
             go_wp2_with fail
             go_ret
             exact save_end HE.out.2.2.1 H7.out H8.out.1 H8.out.2 HZ.out HRR.out HV8.out.2.2.size H9.out.2.2.1 H9.out.2.2.2 HF1.out.2.1 HF2.out.2.1 HF3.out.2.1 HF3.out.1 HE.out.2.1
end
end
section
open Go Go.RowKit
set_option maxRecDepth 100000
section
variable {C : ConD} {w : World} {S : Nat → Prop} {b p : Nat} {Q : Bool → Nat} {d : Dk} {k : Km} {q : Pl}
theorem Saves_any (h : KB C w S b Q p d k q) : Calls Tryz.prog 8 #[.pointer (some ⟨b, 0, none⟩)] w fun e w' => e = .returned (.int .i64 (k.saves : Int)) ∧ w = w' := by
 have c7 : w.cell? ⟨b, 7, none⟩ = some (.int .i64 (k.saves : Int)) := h.cell 7
 clear h
 go_enter Tryz.func8, Tryz.ntmps8
 go_wp2_with fail
 go_ret
 exact ⟨rfl, rfl⟩
theorem Fresh.onS {w w1 w2 F : World} {s : St} {q : Pl} (h : Fresh w1 w2 s q) (hw : w.heap.size ≤ w1.heap.size) (hk : ∀ k, w1.heap.size ≤ k → k < w2.heap.size → F.heap[k]? = w2.heap[k]?) (hs : w2.heap.size ≤ F.heap.size) : Fresh w F s q :=
 ⟨h.ents.move (fun k hk' _ => hk k hk'.1 hk'.2) fun k hk' => ⟨by have := hk'.1; omega, by have := hk'.2; omega⟩,
  (RowT.kept h.conf fun k hk' _ => hk k hk'.1 hk'.2).mono fun k hk' => ⟨by have := hk'.1; omega, by have := hk'.2; omega⟩,
  (h.snap.kept fun k hk' _ => hk k hk'.1 hk'.2).mono fun k hk' => ⟨by have := hk'.1; omega, by have := hk'.2; omega⟩⟩
theorem Rws.inp {T : Nat → Prop} {s : St} (h : Rws w T s q) (hT : ∀ k, T k → k < w.heap.size) (hm : mayS s = true) : Inp s.log q.AL q.nL q.cL w := by
 obtain ⟨h1, -, -, -⟩ := mayS_parts hm
 have h2 := mayE_head h1
 have h3 := fun e he => fitM_iff.1 (mayE_fit h1 e he)
 exact ⟨⟨h.ents.move (fun _ _ _ => rfl) hT, fun e he => by have := h3 e he; unfold En.ok inI; omega⟩, by unfold inI; omega, by unfold inI; omega, by omega, fun e he => by have := h3 e he; omega⟩
theorem Rws.ints {T : Nat → Prop} {s : St} (h : Rws w T s q) (hT : ∀ k, T k → k < w.heap.size) (hm : mayS s = true) : Ints w (.slice q.AC q.nC q.cC) s.conf :=
 ⟨h.conf.mono hT, fun z hz => by have := (mayC_all (mayS_parts hm).2.1).2 z hz; unfold inI; omega⟩
set_option maxHeartbeats 8000000 in
theorem Load_any (h : KB C w S b Q p d k q) (hm : mayS k.kept = true) (hsn : k.kept.snap.length ≤ 2000000) :
   Calls Tryz.prog 9 #[.pointer (some ⟨b, 0, none⟩)] w fun e w' => ∃ q', e = .returned (stV k.kept q') ∧ Fresh w w' k.kept q' ∧ Below w.heap.size w w' := by
 obtain ⟨W1, g1, hW1, hg1, hb1, hq1, hsz1⟩ := one_box w (.cells #[.int .i64 0, .int .i64 0, .int .i64 0, .int .i64 0, .slice none 0 0, .slice none 0 0, .slice none 0 0] 35)
 have h1 := h.more hb1
 have hAv : ∀ x, Av W1 (KS S b Q) x → x < W1.heap.size := fun _ hx => hx.1
 have hres : Tryz.f9.results = #[.cell 2 35] := by kernel_rfl
 have CC := scopied_any k.kept q W1 (h1.rows.inp hAv hm) (h1.rows.ints hAv hm) (h1.rows.snap.mono hAv) (mayS_parts hm).1 (mayS_parts hm).2.1 hsn
 unfold stV at CC
 have CC := jI CC
 have z8 : W1.cell? ⟨b, 8, none⟩ = some (.int .i64 k.kept.term) := h1.cell 8
 have z9 : W1.cell? ⟨b, 9, none⟩ = some (.int .i64 k.kept.vote) := h1.cell 9
 have z10 : W1.cell? ⟨b, 10, none⟩ = some (.int .i64 k.kept.log.base) := h1.cell 10
 have z11 : W1.cell? ⟨b, 11, none⟩ = some (.int .i64 k.kept.log.term) := h1.cell 11
 have z12 : W1.cell? ⟨b, 12, none⟩ = some (.slice q.AL q.nL q.cL) := h1.cell 12
 have z13 : W1.cell? ⟨b, 13, none⟩ = some (.slice q.AC q.nC q.cC) := h1.cell 13
 have z14 : W1.cell? ⟨b, 14, none⟩ = some (.slice q.AS q.nS q.cS) := h1.cell 14
 have HE := jI (jA hb1 (jA hq1 (show w.heap.size ≤ g1 ∧ g1 < W1.heap.size by omega)))
 have HW := jI (jA hW1 hg1)
 clear h hm hsn hW1 hg1 hb1 hq1 hsz1 h1 hAv
 go_enter Tryz.func9, Tryz.ntmps9
 go_upto_region 1 with fail
 rw [← HW.out.1, ← HW.out.2]
 go_wp2_with (go_at_call 32; go_must (refine CC.out.mono ?_; clear CC z8 z9 z10 z11 z12 z13 z14; rintro y w2 ⟨q', rfl, hfr, hb2⟩; have Y2 : w2.heap[g1]? = some (.cells #[.int .i64 0, .int .i64 0, .int .i64 0, .int .i64 0, .slice none 0 0, .slice none 0 0, .slice none 0 0] 35 (0, 0)) := (hb2.block g1 (by have := HE.out.2.2.2; omega)).trans HE.out.2.1; obtain ⟨y0, y1, y2, y3, y4, y5, y6⟩ := cells7 Y2; have e0 := frozen_own Y2 0; have e1 := frozen_own Y2 1; have e2 := frozen_own Y2 2; have e3 := frozen_own Y2 3; have e4 := frozen_own Y2 4; have e5 := frozen_own Y2 5; have e6 := frozen_own Y2 6; have HY2 := jI Y2; have H2 := jI (jA hfr hb2); clear hfr hb2 Y2))
 obtain ⟨F, hF, hE, hbQ, hoth, hsF⟩ := put7 HY2.out (.int .i64 k.kept.term) (.int .i64 k.kept.vote) (.int .i64 k.kept.log.base) (.int .i64 k.kept.log.term) (.slice q'.AL q'.nL q'.cL) (.slice q'.AC q'.nC q'.cC) (.slice q'.AS q'.nS q'.cS)
 rw [← hF]
 have hg1 := HE.out.2.2
 have hbF : Below w.heap.size w F := (HE.out.1.trans (H2.out.2.mono HE.out.1.size)).trans (hbQ _ hg1.1)
 have hfr : Fresh w F k.kept q' := H2.out.1.onS HE.out.1.size (fun k hk _ => hoth k (by omega)) (Nat.le_of_eq hsF.symm)
 refine bodyPost_ret (v := stV k.kept q') ?_ rfl ⟨q', rfl, hfr, hbF⟩
 obtain ⟨x0, x1, x2, x3, x4, x5, x6⟩ := cells7 hE
 clear hfr hbF hg1 hE hoth hsF hF hbQ y0 y1 y2 y3 y4 y5 y6 e0 e1 e2 e3 e4 e5 e6
 unfold stV
 simp only [results, hres]
 go_simp
end
end
section
open Go Go.RowKit
set_option maxRecDepth 100000
theorem lists_last {w : World} {T : Nat → Prop} {A : Option Addr} {n c : Nat} {l : List (List UInt8)} (h : ListsT w T (.slice A n c) l) : n = l.length ∧ n ≤ 9223372036854775807 ∧ (0 < n → ∃ bk off A' m' c' x, A = some ⟨bk, off, none⟩ ∧ T bk ∧ w.cell? ⟨bk, off + (n - 1), none⟩ = some (.slice A' m' c') ∧ SlT w T (.slice A' m' c') x ∧ m' = x.length ∧ l.getLast? = some x) := by
 obtain ⟨cs, hr, he⟩ := h
 obtain ⟨hcl, A2, c2, hv, h1, h2, h3⟩ := hr
 injection hv with e1 e2 e3
 subst e1; subst e3
 refine ⟨e2, by omega, fun hn => ?_⟩
 rcases h3 with h3 | ⟨bk, off, rfl, hT, hc⟩
 · omega
 · have hj : n - 1 < l.length := by omega
   obtain ⟨u, hu, hs⟩ := he (n - 1) hj
   have hs' := hs
   obtain ⟨A', c', rfl, -, -⟩ := id hs'
   refine ⟨bk, off, A', _, c', l[n - 1], rfl, hT, ?_, hs, rfl, ?_⟩
   · have := hc (n - 1) _ hu
     exact this
   · rw [List.getLast?_eq_getElem?, ← e2, List.getElem?_eq_getElem hj]
section
variable {C : ConD} {w : World} {S : Nat → Prop} {b p : Nat} {Q : Bool → Nat} {d : Dk} {k : Km} {q : Pl}
def optK (k : Km) (o : Bool) : Option (Nat × St) → Km
 | none => k
 | some r => if k.saves < r.1 then { k with on := o, saves := r.1, kept := r.2 } else k
def ChoP (C : ConD) (w : World) (S : Nat → Prop) (b : Nat) (Q : Bool → Nat) (p : Nat) (d : Dk) (k : Km) (L : Bool → List (List UInt8)) (e : Ending) (w' : World) : Prop := ∃ k' q', KB C w' S b Q p d k' q' ∧ Turn (KS S b Q) (KS S b Q) w w' ∧
 ((e = .returned (er 14) ∧ (recS (L false) = none ∨ recS (L true) = none)) ∨ (e = .returned .nilIface ∧ ∃ a c, recS (L false) = some a ∧ recS (L true) = some c ∧ k' = optK (optK k false a) true c))
theorem recS_last {l : List (List UInt8)} {x : List UInt8} (h : l.getLast? = some x) : recS l = (decS x).map some := by unfold recS; rw [h]
theorem recS_zero {l : List (List UInt8)} (h : l.length = 0) : recS l = some none := by rw [List.eq_nil_of_length_eq_zero h]; rfl
theorem cho_end {wr w2 V2 V8 F1 F2 F3 : World} {kk : Km} {qk qq : Pl} {s' : St} {x : List UInt8} {n : Nat} {o : Bool} (hB : KB C V2 S b Q p d kk qk) (hR : KB C wr S b Q p d kk qk) (h2 : Below wr.heap.size wr w2) (h3 : Below w2.heap.size w2 V2) (h8 : Below V2.heap.size V2 V8) (o1 : OnlyP b V8 F1) (o2 : OnlyP b F1 F2) (o3 : OnlyP b F2 F3)
   (hb : F3.heap[b]? = some (.cells (kpC { { { kk with on := o } with saves := n } with kept := s' } qq Q) 75 (0, 0))) (hd : decS x = some (n, s')) (hrw : Rws w2 (fun y => wr.heap.size ≤ y ∧ y < w2.heap.size) s' qq) (hen : ∀ e ∈ s'.log.l, e.ok ∧ e.data.length ≤ 4096) (hgt : kk.saves < n) :
   KB C F3 S b Q p d (optK kk o (some (n, s'))) qq ∧ Turn (KS S b Q) (KS S b Q) V2 F3 ∧ True := by
 have ho := only_trans (only_trans o1 o2) o3
 have hbl := hR.lt
 have hrF : Rws F3 (Av F3 (KS S b Q)) s' qq := hrw.move (fun y hy hy2 => by rw [ho.block y (by have := hy.1; omega), h8.block y (by have := h3.size; omega), h3.block y hy2]) fun y hy => ⟨by rw [ho.size]; have := hy.2; have := h3.size; have := h8.size; omega, fun e => by have := hR.foot y e; have := hy.1; omega⟩
 have hm := decS_may hd
 have hu := (hB.more h8).upd (k' := { { { kk with on := o } with saves := n } with kept := s' }) ho hb rfl hrF ⟨fun e he => (hen e he).1, fun z hz => by have := (mayC_all (mayS_parts hm.1).2.1).2 z hz; unfold inI; omega⟩
 have hk : optK kk o (some (n, s')) = { { { kk with on := o } with saves := n } with kept := s' } := if_pos hgt
 rw [hk]
 exact ⟨hu.1, (Turn.of_below h8).trans hu.2, trivial⟩
set_option maxHeartbeats 32000000 in
theorem choose_any (h : KB C w S b Q p d k q) (hs : StdP w) (A0 : Option Addr) (n0 c0 : Nat) (A1 : Option Addr) (n1 c1 : Nat) (L : Bool → List (List UInt8)) (h0 : ListsT w (Av w (KS S b Q)) (.slice A0 n0 c0) (L false)) (h1 : ListsT w (Av w (KS S b Q)) (.slice A1 n1 c1) (L true))
   (hsd : ∀ W, Turn (KS S b Q) (KS S b Q) w W → StdP W) (hlen : ∀ o, ∀ x ∈ L o, x.length ≤ 140737488355328) :
   Calls Tryz.prog 37 #[.pointer (some ⟨b, 0, none⟩), .agg #[.slice A0 n0 c0, .slice A1 n1 c1]] w (ChoP C w S b Q p d k L) := by
 obtain ⟨W1, g, hW1, hg, hb1, hq0, hsz⟩ := one_box w (.cells #[.slice A0 n0 c0, .slice A1 n1 c1] 85)
 have z0 : W1.cell? ⟨g, 0, none⟩ = some (.slice A0 n0 c0) := by rw [cell_of_row W1 g 0 _ _ (0, 0) hq0]; rfl
 have z1 : W1.cell? ⟨g, 1, none⟩ = some (.slice A1 n1 c1) := by rw [cell_of_row W1 g 1 _ _ (0, 0) hq0]; rfl
 have HMv := jI fun (A : Option Addr) (n c : Nat) (l : List (List UInt8)) (hl : ListsT w (Av w (KS S b Q)) (.slice A n c) l) W (ht : Turn (KS S b Q) (KS S b Q) w W) => (show ListsT W (Av W (KS S b Q)) (.slice A n c) l from by
   obtain ⟨cs, hr, he⟩ := hl
   have hk : ∀ x, Av w (KS S b Q) x → x < w.heap.size → W.heap[x]? = w.heap[x]? := fun x hx hx2 => ht.kept.block x hx2 hx.2
   have hT : ∀ x, Av w (KS S b Q) x → Av W (KS S b Q) x := fun x hx => ⟨Nat.lt_of_lt_of_le hx.1 ht.kept.size, hx.2⟩
   exact ⟨cs, (RowT.kept hr hk).mono hT, fun j hj => by obtain ⟨u, hu, hs⟩ := he j hj; exact ⟨u, hu, (hs.kept hk).mono hT⟩⟩)
 have HE := jI (jA (h.more hb1) (jA (Turn.of_below (S := KS S b Q) hb1) (jA hsd hlen)))
 have HL := jI (jA h0 h1)
 have HW := jI (jA hW1 hg)
 have hn0 := (lists_last h0).2.1
 have hn1 := (lists_last h1).2.1
 have in0 : (n0 : Int) ≤ 9223372036854775807 := by omega
 have in1 : (n1 : Int) ≤ 9223372036854775807 := by omega
 clear h hs h0 h1 hsd hlen hW1 hg hb1 hq0 hsz hn0 hn1
 go_enter Tryz.func37, Tryz.ntmps37
 go_upto_region 1 with fail
 rw [← HW.out.1]
 try rw [← HW.out.2]
 go_wp2_with fail
 clear z0 z1
 go_loopw [11] (fun ii wr => ∃ (kk : Km) (qk : Pl), Hid (KB C wr S b Q p d kk qk ∧ Turn (KS S b Q) (KS S b Q) w wr) ∧ ((ii = .int .i64 0 ∧ Hid (kk = k)) ∨ (ii = .int .i64 1 ∧ Hid (∃ a, recS (L false) = some a ∧ kk = optK k false a)) ∨ (ii = .int .i64 2 ∧ Hid (∃ a c, recS (L false) = some a ∧ recS (L true) = some c ∧ kk = optK (optK k false a) true c)))) (fun ii _ => 2 - (intOf ii).toNat)
 case atStart => exact ⟨k, q, jI ⟨HE.out.1, HE.out.2.1⟩, Or.inl ⟨rfl, jI rfl⟩⟩
 case round =>
   obtain ⟨kk, qk, HR, hrel⟩ := hrel
   rcases hrel with ⟨rfl, HK⟩ | ⟨rfl, HK⟩ | ⟨rfl, HK⟩
   · have ix : ∀ W, (Instr.index 85 (.agg #[.slice A0 n0 c0, .slice A1 n1 c1]) (.int .i64 0)).run Tryz.prog W = .ok (.slice A0 n0 c0) W := fun _ => by kernel_rfl
     obtain ⟨hnl, -, hlast⟩ := lists_last (HMv.out A0 n0 c0 (L false) HL.out.1 wr HR.out.2)
     by_cases hz : n0 = 0
     · have HREC := jI (recS_zero (l := L false) (by omega))
       have iz : ((n0 : Nat) : Int) = 0 := by omega
       clear hnl hlast hz
       go_upto_region 4 with fail
       clear ix
       go_wp2_with fail
       go_roundw
       case rel => exact ⟨kk, qk, jI ⟨HR.out.1, HR.out.2⟩, Or.inr (Or.inl ⟨by go_num, jI ⟨none, HREC.out, by rw [HK.out]; rfl⟩⟩)⟩
       case measure => simp [intOf]
     · obtain ⟨bk, off, A', m', c', x, rfl, hT, hcell, hsl, hmx, hgl⟩ := hlast (by omega)
       have HREC := jI (recS_last hgl)
       have iz : ¬ ((n0 : Nat) : Int) = 0 := by omega
       have iw : IntKind.i64.wrap ((n0 : Int) - 1) = ((n0 - 1 : Nat) : Int) := by rw [IntKind.wrap_i64]; omega
       have ii1 : ((n0 - 1 : Nat) : Int) < (n0 : Int) := by omega
       have CD := SDec_any A' m' c' x wr (HE.out.2.2.1 wr HR.out.2) (hsl.mono fun _ hx => hx.1) (by rw [hmx]; exact HE.out.2.2.2 false x (List.mem_of_getLast? hgl))
       unfold SDecP stV at CD
       have CD := jI CD
       clear hnl hlast hz hT hsl hmx hgl
       go_upto_region 5 with fail
       clear ix
       go_upto_region 6 with (go_at_call 80; go_must (refine CD.out.mono ?_; rintro y w2 ⟨nn, s', qq, ve, rfl, hb2, h2⟩; have H2 := jI (jA hb2 h2); clear hb2 h2))
       obtain ⟨V2, g2, hV2, hg2, hb3, hq3, hsz3⟩ := one_box w2 (.cells #[.int .i64 s'.term, .int .i64 s'.vote, .int .i64 s'.log.base, .int .i64 s'.log.term, .slice qq.AL qq.nL qq.cL, .slice qq.AC qq.nC qq.cC, .slice qq.AS qq.nS qq.cS] 35)
       rw [← hV2, ← hg2]
       have hbV : Below wr.heap.size wr V2 := H2.out.1.trans (hb3.mono H2.out.1.size)
       have hkV := HR.out.1.more hbV
       have HB := jI (jA hkV (jA (HR.out.2.trans (Turn.of_below hbV)) (jA hb3 (jA hq3 (show g2 ≠ b by have := HR.out.1.lt; have := H2.out.1.size; omega)))))
       have y7 : V2.cell? ⟨b, 7, none⟩ = some (.int .i64 (kk.saves : Int)) := hkV.cell 7
       clear hV2 hg2 hb3 hq3 hsz3 hbV hkV
       rcases H2.out.2 with ⟨hno, rfl, rfl, rfl, rfl⟩ | ⟨n, hsome, rfl, rfl, hrw, hen⟩
       · have HN := jI hno
         clear hno
         go_wp2_with fail
         go_ret
         exact ⟨kk, qk, HB.out.1, HB.out.2.1, Or.inl ⟨by rw [er_ne (show (14 : Nat) ≠ 0 by decide)]; rfl, Or.inl (by rw [HREC.out, HN.out]; rfl)⟩⟩
       · have HY := jI (jA hsome (jA hrw hen))
         clear hsome hrw hen
         by_cases hgt : kk.saves < n
         rotate_left
         · have i3 : ¬ (n : Int) > (kk.saves : Int) := by omega
           have hopt : optK kk false (some (n, s')) = kk := if_neg hgt
           have HO := jI hopt
           clear hgt hopt
           go_wp2_with fail
           go_roundw
           case rel => exact ⟨kk, qk, jI ⟨HB.out.1, HB.out.2.1⟩, Or.inr (Or.inl ⟨by go_num, jI ⟨some (n, s'), by rw [HREC.out, HY.out.1]; rfl, by rw [← HK.out]; exact HO.out.symm⟩⟩)⟩
           case measure => simp [intOf]
         have i3 : (n : Int) > (kk.saves : Int) := by omega
         have HGT := jI hgt
         clear hgt
         go_upto_region 9 with fail
         clear y7
         obtain ⟨V8, hV8⟩ : ∃ V, V = V2.drew := ⟨_, rfl⟩
         have HV8 := jI (show V8.heap[g2]? = some (.cells #[.int .i64 s'.term, .int .i64 s'.vote, .int .i64 s'.log.base, .int .i64 s'.log.term, .slice qq.AL qq.nL qq.cL, .slice qq.AC qq.nC qq.cC, .slice qq.AS qq.nS qq.cS] 35 (0, 0)) ∧ V8.heap[b]? = some (.cells (kpC kk qk Q) 75 (0, 0)) ∧ Below V2.heap.size V2 V8 from by rw [hV8]; exact ⟨HB.out.2.2.2.1, HB.out.1.box, (Below.refl _ _).drew⟩)
         refine wp_region_held_drew (S := fun W => W.heap[g2]? = some (.cells #[.int .i64 s'.term, .int .i64 s'.vote, .int .i64 s'.log.base, .int .i64 s'.log.term, .slice qq.AL qq.nL qq.cL, .slice qq.AC qq.nC qq.cC, .slice qq.AS qq.nS qq.cS] 35 (0, 0))) (by kernel_rfl) (by rw [← hV8]; exact HV8.out.1) (fun hHeld => ?_)
         rw [← hV8]
         rw [← hV8] at hHeld
         clear hV8
         refine wpAnyH_take (i := 0) (oi := { dst := Option.some 38, op := Op.move (Operand.tmp 0), type := 24, pos := "stable.go:109", after := #[], guard := Option.none }) (v := .pointer (some ⟨b, 0, none⟩)) rfl (by kernel_rfl) (by kernel_rfl) (by kernel_rfl) (fun _ _ _ h => h) (Or.inl ⟨by rfl, ?_⟩) hHeld ?_
         · intro W hSw
           go_simp
         simp only [Act.put, qA, qB, qC]
         refine wpAnyH_take (i := 1) (oi := { dst := Option.some 39, op := Op.move (Operand.tmp 0), type := 24, pos := "stable.go:109", after := #[{ on := 8, ground := Ground.gcOnly Departure.lateStores }], guard := Option.none }) (v := .pointer (some ⟨b, 0, none⟩)) rfl (by kernel_rfl) (by kernel_rfl) (by kernel_rfl) (fun _ _ _ h => h) (Or.inl ⟨by rfl, ?_⟩) hHeld ?_
         · intro W hSw
           go_simp
         simp only [Act.put, qA, qB, qC]
         refine wpAnyH_take (i := 2) (oi := { dst := Option.some 40, op := Op.move (Operand.tmp 0), type := 24, pos := "stable.go:109", after := #[{ on := 11, ground := Ground.gcOnly Departure.lateStores }], guard := Option.none }) (v := .pointer (some ⟨b, 0, none⟩)) rfl (by kernel_rfl) (by kernel_rfl) (by kernel_rfl) (fun _ _ _ h => h) (Or.inl ⟨by rfl, ?_⟩) hHeld ?_
         · intro W hSw
           go_simp
         simp only [Act.put, qA, qB, qC]
         refine wpAnyH_take (i := 3) (oi := { dst := Option.some 41, op := Op.move (Operand.tmp 5), type := 3, pos := "stable.go:109", after := #[], guard := Option.none }) (v := .int .i64 0) rfl (by kernel_rfl) (by kernel_rfl) (by kernel_rfl) (fun _ _ _ h => h) (Or.inl ⟨by rfl, ?_⟩) hHeld ?_
         · intro W hSw
           go_simp
         simp only [Act.put, qA, qB, qC]
         refine wpAnyH_take (i := 4) (oi := { dst := Option.some 42, op := Op.move (Operand.tmp 7), type := 3, pos := "stable.go:109", after := #[{ on := 8, ground := Ground.gcOnly Departure.lateStores }], guard := Option.none }) (v := .int .i64 (n : Int)) rfl (by kernel_rfl) (by kernel_rfl) (by kernel_rfl) (fun _ _ _ h => h) (Or.inl ⟨by rfl, ?_⟩) hHeld ?_
         · intro W hSw
           go_simp
         simp only [Act.put, qA, qB, qC]
         refine wpAnyH_take (i := 5) (oi := { dst := Option.some 43, op := Op.load 35 (Operand.tmp 8), type := 35, pos := "stable.go:109", after := #[{ on := 11, ground := Ground.gcOnly Departure.lateStores }], guard := Option.none }) (v := .agg #[.int .i64 s'.term, .int .i64 s'.vote, .int .i64 s'.log.base, .int .i64 s'.log.term, .slice qq.AL qq.nL qq.cL, .slice qq.AC qq.nC qq.cC, .slice qq.AS qq.nS qq.cS]) rfl (by kernel_rfl) (by kernel_rfl) (by kernel_rfl) (fun _ _ _ h => h) (Or.inl ⟨by rfl, ?_⟩) hHeld ?_
         · intro W hSw
           obtain ⟨z0, z1, z2, z3, z4, z5, z6⟩ := cells7 hSw
           go_simp
         simp only [Act.put, qA, qB, qC]
         refine wpAnyH_take (i := 6) (oi := { dst := Option.some 44, op := Op.nilCheck (Operand.tmp 38), type := 0, pos := "stable.go:109", after := #[{ on := 0, ground := Ground.data }, { on := 0, ground := Ground.phase }, { on := 1, ground := Ground.textOnly Departure.lateStores }, { on := 2, ground := Ground.textOnly Departure.lateStores }, { on := 3, ground := Ground.phase }, { on := 4, ground := Ground.textOnly Departure.lateStores }, { on := 5, ground := Ground.textOnly Departure.lateStores }], guard := Option.none }) (v := .pointer (some ⟨b, 0, none⟩)) rfl (by kernel_rfl) (by kernel_rfl) (by kernel_rfl) (fun _ _ _ h => h) (Or.inl ⟨by rfl, ?_⟩) hHeld ?_
         · intro W hSw
           go_simp
         simp only [Act.put, qA, qB, qC]
         refine wpAnyH_take (i := 7) (oi := { dst := Option.some 45, op := Op.fieldAddr 75 (Operand.tmp 44) 2, type := 0, pos := "stable.go:109", after := #[{ on := 6, ground := Ground.data }, { on := 0, ground := Ground.phase }, { on := 1, ground := Ground.textOnly Departure.lateStores }, { on := 2, ground := Ground.textOnly Departure.lateStores }, { on := 3, ground := Ground.phase }, { on := 4, ground := Ground.textOnly Departure.lateStores }, { on := 5, ground := Ground.textOnly Departure.lateStores }], guard := Option.none }) (v := .pointer (some ⟨b, 6, none⟩)) rfl (by kernel_rfl) (by kernel_rfl) (by kernel_rfl) (fun _ _ _ h => h) (Or.inl ⟨by rfl, ?_⟩) hHeld ?_
         · intro W hSw
           go_simp
         simp only [Act.put, qA, qB, qC]
         have d6 : V8.cell? ⟨b, 6, none⟩ = some (.int .i64 (onI kk.on)) := kp_cell HV8.out.2.1 6
         have f6 := frozen_of_row V8 b 6 _ _ HV8.out.2.1
         refine wpAnyH_ready (rs := [8]) (by kernel_rfl) (by simp) ?_
         refine AllReadyH.cons (o := { dst := Option.none, op := Op.store 3 (Operand.tmp 45) (Operand.tmp 41), type := 0, pos := "stable.go:109", after := #[{ on := 7, ground := Ground.data }, { on := 3, ground := Ground.data }, { on := 0, ground := Ground.phase }, { on := 1, ground := Ground.textOnly Departure.lateStores }, { on := 2, ground := Ground.textOnly Departure.lateStores }, { on := 3, ground := Ground.phase }, { on := 4, ground := Ground.textOnly Departure.lateStores }, { on := 5, ground := Ground.textOnly Departure.lateStores }], guard := Option.none }) rfl (fun K hK => ?_) AllReadyH.nil
         go_simp
         obtain ⟨F1, hF1, hB1, hO1⟩ := kp_on HV8.out.2.1 false
         rw [show onI false = 0 from rfl] at hF1
         rw [← hF1]
         have HF1 := jI (jA hB1 (jA hO1 ((hO1.block g2 HB.out.2.2.2.2).trans HV8.out.1)))
         clear hF1 hB1 hO1 d6 f6
         refine hK.out _ _ (HF1.out.2.2) (fun hHeld2 => ?_)
         clear hK K hHeld
         have hHeld := hHeld2
         clear hHeld2
         refine wpAnyH_take (i := 9) (oi := { dst := Option.some 46, op := Op.nilCheck (Operand.tmp 39), type := 0, pos := "stable.go:109", after := #[{ on := 1, ground := Ground.data }, { on := 0, ground := Ground.phase }, { on := 1, ground := Ground.phase }, { on := 2, ground := Ground.textOnly Departure.lateStores }, { on := 3, ground := Ground.phase }, { on := 4, ground := Ground.phase }, { on := 5, ground := Ground.textOnly Departure.lateStores }, { on := 6, ground := Ground.phase }, { on := 7, ground := Ground.phase }, { on := 8, ground := Ground.phase }], guard := Option.none }) (v := .pointer (some ⟨b, 0, none⟩)) rfl (by kernel_rfl) (by kernel_rfl) (by kernel_rfl) (fun _ _ _ h => h) (Or.inl ⟨by rfl, ?_⟩) hHeld ?_
         · intro W hSw
           go_simp
         simp only [Act.put, qA, qB, qC]
         refine wpAnyH_take (i := 10) (oi := { dst := Option.some 47, op := Op.fieldAddr 75 (Operand.tmp 46) 3, type := 0, pos := "stable.go:109", after := #[{ on := 9, ground := Ground.data }, { on := 0, ground := Ground.phase }, { on := 1, ground := Ground.phase }, { on := 2, ground := Ground.textOnly Departure.lateStores }, { on := 3, ground := Ground.phase }, { on := 4, ground := Ground.phase }, { on := 5, ground := Ground.textOnly Departure.lateStores }, { on := 6, ground := Ground.phase }, { on := 7, ground := Ground.phase }, { on := 8, ground := Ground.phase }], guard := Option.none }) (v := .pointer (some ⟨b, 7, none⟩)) rfl (by kernel_rfl) (by kernel_rfl) (by kernel_rfl) (fun _ _ _ h => h) (Or.inl ⟨by rfl, ?_⟩) hHeld ?_
         · intro W hSw
           go_simp
         simp only [Act.put, qA, qB, qC]
         have d7 : F1.cell? ⟨b, 7, none⟩ = some (.int .i64 (kk.saves : Int)) := kp_cell HF1.out.1 7
         have f7 := frozen_of_row F1 b 7 _ _ HF1.out.1
         refine wpAnyH_ready (rs := [11]) (by kernel_rfl) (by simp) ?_
         refine AllReadyH.cons (o := { dst := Option.none, op := Op.store 3 (Operand.tmp 47) (Operand.tmp 42), type := 0, pos := "stable.go:109", after := #[{ on := 10, ground := Ground.data }, { on := 4, ground := Ground.data }, { on := 8, ground := Ground.chain }, { on := 0, ground := Ground.phase }, { on := 1, ground := Ground.phase }, { on := 2, ground := Ground.textOnly Departure.lateStores }, { on := 3, ground := Ground.phase }, { on := 4, ground := Ground.phase }, { on := 5, ground := Ground.textOnly Departure.lateStores }, { on := 6, ground := Ground.phase }, { on := 7, ground := Ground.phase }, { on := 8, ground := Ground.phase }], guard := Option.none }) rfl (fun K hK => ?_) AllReadyH.nil
         go_simp
         obtain ⟨F2, hF2, hB2, hO2⟩ := kp_sv HF1.out.1 n
         rw [← hF2]
         have HF2 := jI (jA hB2 (jA hO2 ((hO2.block g2 HB.out.2.2.2.2).trans HF1.out.2.2)))
         clear hF2 hB2 hO2 d7 f7
         refine hK.out _ _ (HF2.out.2.2) (fun hHeld2 => ?_)
         clear hK K hHeld
         have hHeld := hHeld2
         clear hHeld2
         refine wpAnyH_take (i := 12) (oi := { dst := Option.some 48, op := Op.nilCheck (Operand.tmp 40), type := 0, pos := "stable.go:109", after := #[{ on := 2, ground := Ground.data }, { on := 0, ground := Ground.phase }, { on := 1, ground := Ground.phase }, { on := 2, ground := Ground.phase }, { on := 3, ground := Ground.phase }, { on := 4, ground := Ground.phase }, { on := 5, ground := Ground.phase }, { on := 6, ground := Ground.phase }, { on := 7, ground := Ground.phase }, { on := 8, ground := Ground.phase }, { on := 9, ground := Ground.phase }, { on := 10, ground := Ground.phase }, { on := 11, ground := Ground.phase }], guard := Option.none }) (v := .pointer (some ⟨b, 0, none⟩)) rfl (by kernel_rfl) (by kernel_rfl) (by kernel_rfl) (fun _ _ _ h => h) (Or.inl ⟨by rfl, ?_⟩) hHeld ?_
         · intro W hSw
           go_simp
         simp only [Act.put, qA, qB, qC]
         refine wpAnyH_take (i := 13) (oi := { dst := Option.some 49, op := Op.fieldAddr 75 (Operand.tmp 48) 4, type := 0, pos := "stable.go:109", after := #[{ on := 12, ground := Ground.data }, { on := 0, ground := Ground.phase }, { on := 1, ground := Ground.phase }, { on := 2, ground := Ground.phase }, { on := 3, ground := Ground.phase }, { on := 4, ground := Ground.phase }, { on := 5, ground := Ground.phase }, { on := 6, ground := Ground.phase }, { on := 7, ground := Ground.phase }, { on := 8, ground := Ground.phase }, { on := 9, ground := Ground.phase }, { on := 10, ground := Ground.phase }, { on := 11, ground := Ground.phase }], guard := Option.none }) (v := .pointer (some ⟨b, 8, none⟩)) rfl (by kernel_rfl) (by kernel_rfl) (by kernel_rfl) (fun _ _ _ h => h) (Or.inl ⟨by rfl, ?_⟩) hHeld ?_
         · intro W hSw
           go_simp
         simp only [Act.put, qA, qB, qC]
         have d8 : F2.cell? ⟨b, 8, none⟩ = some (.int .i64 kk.kept.term) := kp_cell HF2.out.1 8
         have d9 : F2.cell? ⟨b, 9, none⟩ = some (.int .i64 kk.kept.vote) := kp_cell HF2.out.1 9
         have d10 : F2.cell? ⟨b, 10, none⟩ = some (.int .i64 kk.kept.log.base) := kp_cell HF2.out.1 10
         have d11 : F2.cell? ⟨b, 11, none⟩ = some (.int .i64 kk.kept.log.term) := kp_cell HF2.out.1 11
         have d12 : F2.cell? ⟨b, 12, none⟩ = some (.slice qk.AL qk.nL qk.cL) := kp_cell HF2.out.1 12
         have d13 : F2.cell? ⟨b, 13, none⟩ = some (.slice qk.AC qk.nC qk.cC) := kp_cell HF2.out.1 13
         have d14 : F2.cell? ⟨b, 14, none⟩ = some (.slice qk.AS qk.nS qk.cS) := kp_cell HF2.out.1 14
         have f8 := frozen_of_row F2 b 8 _ _ HF2.out.1; have f9 := frozen_of_row F2 b 9 _ _ HF2.out.1; have f10 := frozen_of_row F2 b 10 _ _ HF2.out.1; have f11 := frozen_of_row F2 b 11 _ _ HF2.out.1; have f12 := frozen_of_row F2 b 12 _ _ HF2.out.1; have f13 := frozen_of_row F2 b 13 _ _ HF2.out.1; have f14 := frozen_of_row F2 b 14 _ _ HF2.out.1
         refine wpAnyH_ready (rs := [14]) (by kernel_rfl) (by simp) ?_
         refine AllReadyH.cons (o := { dst := Option.none, op := Op.store 35 (Operand.tmp 49) (Operand.tmp 43), type := 0, pos := "stable.go:109", after := #[{ on := 13, ground := Ground.data }, { on := 5, ground := Ground.data }, { on := 11, ground := Ground.chain }, { on := 0, ground := Ground.phase }, { on := 1, ground := Ground.phase }, { on := 2, ground := Ground.phase }, { on := 3, ground := Ground.phase }, { on := 4, ground := Ground.phase }, { on := 5, ground := Ground.phase }, { on := 6, ground := Ground.phase }, { on := 7, ground := Ground.phase }, { on := 8, ground := Ground.phase }, { on := 9, ground := Ground.phase }, { on := 10, ground := Ground.phase }, { on := 11, ground := Ground.phase }], guard := Option.none }) rfl (fun K hK => ?_) AllReadyH.nil
         go_simp
         obtain ⟨F3, hF3, hB3, hO3⟩ := kp_kept HF2.out.1 s' qq
         rw [← hF3]
         have HF3 := jI (jA hB3 (jA hO3 ((hO3.block g2 HB.out.2.2.2.2).trans HF2.out.2.2)))
         clear hF3 hB3 hO3 d8 d9 d10 d11 d12 d13 d14 f8 f9 f10 f11 f12 f13 f14
         refine hK.out _ _ HF3.out.2.2 (fun hHeld2 => ?_)
         clear hK K hHeld hHeld2
         refine wpAnyH_done (by kernel_rfl) ?_ _
         have hend := cho_end (o := false) HB.out.1 HR.out.1 H2.out.1 HB.out.2.2.1 HV8.out.2.2 HF1.out.2.1 HF2.out.2.1 HF3.out.2.1 HF3.out.1 HY.out.1 HY.out.2.1 HY.out.2.2 HGT.out
         have HN := jI (jA hend.1 (jA (HB.out.2.1.trans hend.2.1) hend.2.2))
         clear hend
         go_wp2_with fail
         go_roundw
         case rel => exact ⟨optK kk false (some (n, s')), qq, jI ⟨HN.out.1, HN.out.2.1⟩, Or.inr (Or.inl ⟨by go_num, jI ⟨some (n, s'), by rw [HREC.out, HY.out.1]; rfl, by rw [HK.out]⟩⟩)⟩
         case measure => simp [intOf]
   · have ix : ∀ W, (Instr.index 85 (.agg #[.slice A0 n0 c0, .slice A1 n1 c1]) (.int .i64 1)).run Tryz.prog W = .ok (.slice A1 n1 c1) W := fun _ => by kernel_rfl
     obtain ⟨hnl, -, hlast⟩ := lists_last (HMv.out A1 n1 c1 (L true) HL.out.2 wr HR.out.2)
     by_cases hz : n1 = 0
     · have HREC := jI (recS_zero (l := L true) (by omega))
       have iz : ((n1 : Nat) : Int) = 0 := by omega
       clear hnl hlast hz
       go_upto_region 4 with fail
       clear ix
       go_wp2_with fail
       go_roundw
       case rel => (obtain ⟨a, ha, hk⟩ := HK.out; exact ⟨kk, qk, jI ⟨HR.out.1, HR.out.2⟩, Or.inr (Or.inr ⟨by go_num, jI ⟨a, none, ha, HREC.out, by rw [hk]; rfl⟩⟩)⟩)
       case measure => simp [intOf]
     · obtain ⟨bk, off, A', m', c', x, rfl, hT, hcell, hsl, hmx, hgl⟩ := hlast (by omega)
       have HREC := jI (recS_last hgl)
       have iz : ¬ ((n1 : Nat) : Int) = 0 := by omega
       have iw : IntKind.i64.wrap ((n1 : Int) - 1) = ((n1 - 1 : Nat) : Int) := by rw [IntKind.wrap_i64]; omega
       have ii1 : ((n1 - 1 : Nat) : Int) < (n1 : Int) := by omega
       have CD := SDec_any A' m' c' x wr (HE.out.2.2.1 wr HR.out.2) (hsl.mono fun _ hx => hx.1) (by rw [hmx]; exact HE.out.2.2.2 true x (List.mem_of_getLast? hgl))
       unfold SDecP stV at CD
       have CD := jI CD
       clear hnl hlast hz hT hsl hmx hgl
       go_upto_region 5 with fail
       clear ix
       go_upto_region 6 with (go_at_call 80; go_must (refine CD.out.mono ?_; rintro y w2 ⟨nn, s', qq, ve, rfl, hb2, h2⟩; have H2 := jI (jA hb2 h2); clear hb2 h2))
       obtain ⟨V2, g2, hV2, hg2, hb3, hq3, hsz3⟩ := one_box w2 (.cells #[.int .i64 s'.term, .int .i64 s'.vote, .int .i64 s'.log.base, .int .i64 s'.log.term, .slice qq.AL qq.nL qq.cL, .slice qq.AC qq.nC qq.cC, .slice qq.AS qq.nS qq.cS] 35)
       rw [← hV2, ← hg2]
       have hbV : Below wr.heap.size wr V2 := H2.out.1.trans (hb3.mono H2.out.1.size)
       have hkV := HR.out.1.more hbV
       have HB := jI (jA hkV (jA (HR.out.2.trans (Turn.of_below hbV)) (jA hb3 (jA hq3 (show g2 ≠ b by have := HR.out.1.lt; have := H2.out.1.size; omega)))))
       have y7 : V2.cell? ⟨b, 7, none⟩ = some (.int .i64 (kk.saves : Int)) := hkV.cell 7
       clear hV2 hg2 hb3 hq3 hsz3 hbV hkV
       rcases H2.out.2 with ⟨hno, rfl, rfl, rfl, rfl⟩ | ⟨n, hsome, rfl, rfl, hrw, hen⟩
       · have HN := jI hno
         clear hno
         go_wp2_with fail
         go_ret
         exact ⟨kk, qk, HB.out.1, HB.out.2.1, Or.inl ⟨by rw [er_ne (show (14 : Nat) ≠ 0 by decide)]; rfl, Or.inr (by rw [HREC.out, HN.out]; rfl)⟩⟩
       · have HY := jI (jA hsome (jA hrw hen))
         clear hsome hrw hen
         by_cases hgt : kk.saves < n
         rotate_left
         · have i3 : ¬ (n : Int) > (kk.saves : Int) := by omega
           have hopt : optK kk true (some (n, s')) = kk := if_neg hgt
           have HO := jI hopt
           clear hgt hopt
           go_wp2_with fail
           go_roundw
           case rel => (obtain ⟨a, ha, hk⟩ := HK.out; exact ⟨kk, qk, jI ⟨HB.out.1, HB.out.2.1⟩, Or.inr (Or.inr ⟨by go_num, jI ⟨a, some (n, s'), ha, by rw [HREC.out, HY.out.1]; rfl, by rw [← hk]; exact HO.out.symm⟩⟩)⟩)
           case measure => simp [intOf]
         have i3 : (n : Int) > (kk.saves : Int) := by omega
         have HGT := jI hgt
         clear hgt
         go_upto_region 9 with fail
         clear y7
         obtain ⟨V8, hV8⟩ : ∃ V, V = V2.drew := ⟨_, rfl⟩
         have HV8 := jI (show V8.heap[g2]? = some (.cells #[.int .i64 s'.term, .int .i64 s'.vote, .int .i64 s'.log.base, .int .i64 s'.log.term, .slice qq.AL qq.nL qq.cL, .slice qq.AC qq.nC qq.cC, .slice qq.AS qq.nS qq.cS] 35 (0, 0)) ∧ V8.heap[b]? = some (.cells (kpC kk qk Q) 75 (0, 0)) ∧ Below V2.heap.size V2 V8 from by rw [hV8]; exact ⟨HB.out.2.2.2.1, HB.out.1.box, (Below.refl _ _).drew⟩)
         refine wp_region_held_drew (S := fun W => W.heap[g2]? = some (.cells #[.int .i64 s'.term, .int .i64 s'.vote, .int .i64 s'.log.base, .int .i64 s'.log.term, .slice qq.AL qq.nL qq.cL, .slice qq.AC qq.nC qq.cC, .slice qq.AS qq.nS qq.cS] 35 (0, 0))) (by kernel_rfl) (by rw [← hV8]; exact HV8.out.1) (fun hHeld => ?_)
         rw [← hV8]
         rw [← hV8] at hHeld
         clear hV8
         refine wpAnyH_take (i := 0) (oi := { dst := Option.some 38, op := Op.move (Operand.tmp 0), type := 24, pos := "stable.go:109", after := #[], guard := Option.none }) (v := .pointer (some ⟨b, 0, none⟩)) rfl (by kernel_rfl) (by kernel_rfl) (by kernel_rfl) (fun _ _ _ h => h) (Or.inl ⟨by rfl, ?_⟩) hHeld ?_
         · intro W hSw
           go_simp
         simp only [Act.put, qA, qB, qC]
         refine wpAnyH_take (i := 1) (oi := { dst := Option.some 39, op := Op.move (Operand.tmp 0), type := 24, pos := "stable.go:109", after := #[{ on := 8, ground := Ground.gcOnly Departure.lateStores }], guard := Option.none }) (v := .pointer (some ⟨b, 0, none⟩)) rfl (by kernel_rfl) (by kernel_rfl) (by kernel_rfl) (fun _ _ _ h => h) (Or.inl ⟨by rfl, ?_⟩) hHeld ?_
         · intro W hSw
           go_simp
         simp only [Act.put, qA, qB, qC]
         refine wpAnyH_take (i := 2) (oi := { dst := Option.some 40, op := Op.move (Operand.tmp 0), type := 24, pos := "stable.go:109", after := #[{ on := 11, ground := Ground.gcOnly Departure.lateStores }], guard := Option.none }) (v := .pointer (some ⟨b, 0, none⟩)) rfl (by kernel_rfl) (by kernel_rfl) (by kernel_rfl) (fun _ _ _ h => h) (Or.inl ⟨by rfl, ?_⟩) hHeld ?_
         · intro W hSw
           go_simp
         simp only [Act.put, qA, qB, qC]
         refine wpAnyH_take (i := 3) (oi := { dst := Option.some 41, op := Op.move (Operand.tmp 5), type := 3, pos := "stable.go:109", after := #[], guard := Option.none }) (v := .int .i64 1) rfl (by kernel_rfl) (by kernel_rfl) (by kernel_rfl) (fun _ _ _ h => h) (Or.inl ⟨by rfl, ?_⟩) hHeld ?_
         · intro W hSw
           go_simp
         simp only [Act.put, qA, qB, qC]
         refine wpAnyH_take (i := 4) (oi := { dst := Option.some 42, op := Op.move (Operand.tmp 7), type := 3, pos := "stable.go:109", after := #[{ on := 8, ground := Ground.gcOnly Departure.lateStores }], guard := Option.none }) (v := .int .i64 (n : Int)) rfl (by kernel_rfl) (by kernel_rfl) (by kernel_rfl) (fun _ _ _ h => h) (Or.inl ⟨by rfl, ?_⟩) hHeld ?_
         · intro W hSw
           go_simp
         simp only [Act.put, qA, qB, qC]
         refine wpAnyH_take (i := 5) (oi := { dst := Option.some 43, op := Op.load 35 (Operand.tmp 8), type := 35, pos := "stable.go:109", after := #[{ on := 11, ground := Ground.gcOnly Departure.lateStores }], guard := Option.none }) (v := .agg #[.int .i64 s'.term, .int .i64 s'.vote, .int .i64 s'.log.base, .int .i64 s'.log.term, .slice qq.AL qq.nL qq.cL, .slice qq.AC qq.nC qq.cC, .slice qq.AS qq.nS qq.cS]) rfl (by kernel_rfl) (by kernel_rfl) (by kernel_rfl) (fun _ _ _ h => h) (Or.inl ⟨by rfl, ?_⟩) hHeld ?_
         · intro W hSw
           obtain ⟨z0, z1, z2, z3, z4, z5, z6⟩ := cells7 hSw
           go_simp
         simp only [Act.put, qA, qB, qC]
         refine wpAnyH_take (i := 6) (oi := { dst := Option.some 44, op := Op.nilCheck (Operand.tmp 38), type := 0, pos := "stable.go:109", after := #[{ on := 0, ground := Ground.data }, { on := 0, ground := Ground.phase }, { on := 1, ground := Ground.textOnly Departure.lateStores }, { on := 2, ground := Ground.textOnly Departure.lateStores }, { on := 3, ground := Ground.phase }, { on := 4, ground := Ground.textOnly Departure.lateStores }, { on := 5, ground := Ground.textOnly Departure.lateStores }], guard := Option.none }) (v := .pointer (some ⟨b, 0, none⟩)) rfl (by kernel_rfl) (by kernel_rfl) (by kernel_rfl) (fun _ _ _ h => h) (Or.inl ⟨by rfl, ?_⟩) hHeld ?_
         · intro W hSw
           go_simp
         simp only [Act.put, qA, qB, qC]
         refine wpAnyH_take (i := 7) (oi := { dst := Option.some 45, op := Op.fieldAddr 75 (Operand.tmp 44) 2, type := 0, pos := "stable.go:109", after := #[{ on := 6, ground := Ground.data }, { on := 0, ground := Ground.phase }, { on := 1, ground := Ground.textOnly Departure.lateStores }, { on := 2, ground := Ground.textOnly Departure.lateStores }, { on := 3, ground := Ground.phase }, { on := 4, ground := Ground.textOnly Departure.lateStores }, { on := 5, ground := Ground.textOnly Departure.lateStores }], guard := Option.none }) (v := .pointer (some ⟨b, 6, none⟩)) rfl (by kernel_rfl) (by kernel_rfl) (by kernel_rfl) (fun _ _ _ h => h) (Or.inl ⟨by rfl, ?_⟩) hHeld ?_
         · intro W hSw
           go_simp
         simp only [Act.put, qA, qB, qC]
         have d6 : V8.cell? ⟨b, 6, none⟩ = some (.int .i64 (onI kk.on)) := kp_cell HV8.out.2.1 6
         have f6 := frozen_of_row V8 b 6 _ _ HV8.out.2.1
         refine wpAnyH_ready (rs := [8]) (by kernel_rfl) (by simp) ?_
         refine AllReadyH.cons (o := { dst := Option.none, op := Op.store 3 (Operand.tmp 45) (Operand.tmp 41), type := 0, pos := "stable.go:109", after := #[{ on := 7, ground := Ground.data }, { on := 3, ground := Ground.data }, { on := 0, ground := Ground.phase }, { on := 1, ground := Ground.textOnly Departure.lateStores }, { on := 2, ground := Ground.textOnly Departure.lateStores }, { on := 3, ground := Ground.phase }, { on := 4, ground := Ground.textOnly Departure.lateStores }, { on := 5, ground := Ground.textOnly Departure.lateStores }], guard := Option.none }) rfl (fun K hK => ?_) AllReadyH.nil
         go_simp
         obtain ⟨F1, hF1, hB1, hO1⟩ := kp_on HV8.out.2.1 true
         rw [show onI true = 1 from rfl] at hF1
         rw [← hF1]
         have HF1 := jI (jA hB1 (jA hO1 ((hO1.block g2 HB.out.2.2.2.2).trans HV8.out.1)))
         clear hF1 hB1 hO1 d6 f6
         refine hK.out _ _ (HF1.out.2.2) (fun hHeld2 => ?_)
         clear hK K hHeld
         have hHeld := hHeld2
         clear hHeld2
         refine wpAnyH_take (i := 9) (oi := { dst := Option.some 46, op := Op.nilCheck (Operand.tmp 39), type := 0, pos := "stable.go:109", after := #[{ on := 1, ground := Ground.data }, { on := 0, ground := Ground.phase }, { on := 1, ground := Ground.phase }, { on := 2, ground := Ground.textOnly Departure.lateStores }, { on := 3, ground := Ground.phase }, { on := 4, ground := Ground.phase }, { on := 5, ground := Ground.textOnly Departure.lateStores }, { on := 6, ground := Ground.phase }, { on := 7, ground := Ground.phase }, { on := 8, ground := Ground.phase }], guard := Option.none }) (v := .pointer (some ⟨b, 0, none⟩)) rfl (by kernel_rfl) (by kernel_rfl) (by kernel_rfl) (fun _ _ _ h => h) (Or.inl ⟨by rfl, ?_⟩) hHeld ?_
         · intro W hSw
           go_simp
         simp only [Act.put, qA, qB, qC]
         refine wpAnyH_take (i := 10) (oi := { dst := Option.some 47, op := Op.fieldAddr 75 (Operand.tmp 46) 3, type := 0, pos := "stable.go:109", after := #[{ on := 9, ground := Ground.data }, { on := 0, ground := Ground.phase }, { on := 1, ground := Ground.phase }, { on := 2, ground := Ground.textOnly Departure.lateStores }, { on := 3, ground := Ground.phase }, { on := 4, ground := Ground.phase }, { on := 5, ground := Ground.textOnly Departure.lateStores }, { on := 6, ground := Ground.phase }, { on := 7, ground := Ground.phase }, { on := 8, ground := Ground.phase }], guard := Option.none }) (v := .pointer (some ⟨b, 7, none⟩)) rfl (by kernel_rfl) (by kernel_rfl) (by kernel_rfl) (fun _ _ _ h => h) (Or.inl ⟨by rfl, ?_⟩) hHeld ?_
         · intro W hSw
           go_simp
         simp only [Act.put, qA, qB, qC]
         have d7 : F1.cell? ⟨b, 7, none⟩ = some (.int .i64 (kk.saves : Int)) := kp_cell HF1.out.1 7
         have f7 := frozen_of_row F1 b 7 _ _ HF1.out.1
         refine wpAnyH_ready (rs := [11]) (by kernel_rfl) (by simp) ?_
         refine AllReadyH.cons (o := { dst := Option.none, op := Op.store 3 (Operand.tmp 47) (Operand.tmp 42), type := 0, pos := "stable.go:109", after := #[{ on := 10, ground := Ground.data }, { on := 4, ground := Ground.data }, { on := 8, ground := Ground.chain }, { on := 0, ground := Ground.phase }, { on := 1, ground := Ground.phase }, { on := 2, ground := Ground.textOnly Departure.lateStores }, { on := 3, ground := Ground.phase }, { on := 4, ground := Ground.phase }, { on := 5, ground := Ground.textOnly Departure.lateStores }, { on := 6, ground := Ground.phase }, { on := 7, ground := Ground.phase }, { on := 8, ground := Ground.phase }], guard := Option.none }) rfl (fun K hK => ?_) AllReadyH.nil
         go_simp
         obtain ⟨F2, hF2, hB2, hO2⟩ := kp_sv HF1.out.1 n
         rw [← hF2]
         have HF2 := jI (jA hB2 (jA hO2 ((hO2.block g2 HB.out.2.2.2.2).trans HF1.out.2.2)))
         clear hF2 hB2 hO2 d7 f7
         refine hK.out _ _ (HF2.out.2.2) (fun hHeld2 => ?_)
         clear hK K hHeld
         have hHeld := hHeld2
         clear hHeld2
         refine wpAnyH_take (i := 12) (oi := { dst := Option.some 48, op := Op.nilCheck (Operand.tmp 40), type := 0, pos := "stable.go:109", after := #[{ on := 2, ground := Ground.data }, { on := 0, ground := Ground.phase }, { on := 1, ground := Ground.phase }, { on := 2, ground := Ground.phase }, { on := 3, ground := Ground.phase }, { on := 4, ground := Ground.phase }, { on := 5, ground := Ground.phase }, { on := 6, ground := Ground.phase }, { on := 7, ground := Ground.phase }, { on := 8, ground := Ground.phase }, { on := 9, ground := Ground.phase }, { on := 10, ground := Ground.phase }, { on := 11, ground := Ground.phase }], guard := Option.none }) (v := .pointer (some ⟨b, 0, none⟩)) rfl (by kernel_rfl) (by kernel_rfl) (by kernel_rfl) (fun _ _ _ h => h) (Or.inl ⟨by rfl, ?_⟩) hHeld ?_
         · intro W hSw
           go_simp
         simp only [Act.put, qA, qB, qC]
         refine wpAnyH_take (i := 13) (oi := { dst := Option.some 49, op := Op.fieldAddr 75 (Operand.tmp 48) 4, type := 0, pos := "stable.go:109", after := #[{ on := 12, ground := Ground.data }, { on := 0, ground := Ground.phase }, { on := 1, ground := Ground.phase }, { on := 2, ground := Ground.phase }, { on := 3, ground := Ground.phase }, { on := 4, ground := Ground.phase }, { on := 5, ground := Ground.phase }, { on := 6, ground := Ground.phase }, { on := 7, ground := Ground.phase }, { on := 8, ground := Ground.phase }, { on := 9, ground := Ground.phase }, { on := 10, ground := Ground.phase }, { on := 11, ground := Ground.phase }], guard := Option.none }) (v := .pointer (some ⟨b, 8, none⟩)) rfl (by kernel_rfl) (by kernel_rfl) (by kernel_rfl) (fun _ _ _ h => h) (Or.inl ⟨by rfl, ?_⟩) hHeld ?_
         · intro W hSw
           go_simp
         simp only [Act.put, qA, qB, qC]
         have d8 : F2.cell? ⟨b, 8, none⟩ = some (.int .i64 kk.kept.term) := kp_cell HF2.out.1 8
         have d9 : F2.cell? ⟨b, 9, none⟩ = some (.int .i64 kk.kept.vote) := kp_cell HF2.out.1 9
         have d10 : F2.cell? ⟨b, 10, none⟩ = some (.int .i64 kk.kept.log.base) := kp_cell HF2.out.1 10
         have d11 : F2.cell? ⟨b, 11, none⟩ = some (.int .i64 kk.kept.log.term) := kp_cell HF2.out.1 11
         have d12 : F2.cell? ⟨b, 12, none⟩ = some (.slice qk.AL qk.nL qk.cL) := kp_cell HF2.out.1 12
         have d13 : F2.cell? ⟨b, 13, none⟩ = some (.slice qk.AC qk.nC qk.cC) := kp_cell HF2.out.1 13
         have d14 : F2.cell? ⟨b, 14, none⟩ = some (.slice qk.AS qk.nS qk.cS) := kp_cell HF2.out.1 14
         have f8 := frozen_of_row F2 b 8 _ _ HF2.out.1; have f9 := frozen_of_row F2 b 9 _ _ HF2.out.1; have f10 := frozen_of_row F2 b 10 _ _ HF2.out.1; have f11 := frozen_of_row F2 b 11 _ _ HF2.out.1; have f12 := frozen_of_row F2 b 12 _ _ HF2.out.1; have f13 := frozen_of_row F2 b 13 _ _ HF2.out.1; have f14 := frozen_of_row F2 b 14 _ _ HF2.out.1
         refine wpAnyH_ready (rs := [14]) (by kernel_rfl) (by simp) ?_
         refine AllReadyH.cons (o := { dst := Option.none, op := Op.store 35 (Operand.tmp 49) (Operand.tmp 43), type := 0, pos := "stable.go:109", after := #[{ on := 13, ground := Ground.data }, { on := 5, ground := Ground.data }, { on := 11, ground := Ground.chain }, { on := 0, ground := Ground.phase }, { on := 1, ground := Ground.phase }, { on := 2, ground := Ground.phase }, { on := 3, ground := Ground.phase }, { on := 4, ground := Ground.phase }, { on := 5, ground := Ground.phase }, { on := 6, ground := Ground.phase }, { on := 7, ground := Ground.phase }, { on := 8, ground := Ground.phase }, { on := 9, ground := Ground.phase }, { on := 10, ground := Ground.phase }, { on := 11, ground := Ground.phase }], guard := Option.none }) rfl (fun K hK => ?_) AllReadyH.nil
         go_simp
         obtain ⟨F3, hF3, hB3, hO3⟩ := kp_kept HF2.out.1 s' qq
         rw [← hF3]
         have HF3 := jI (jA hB3 (jA hO3 ((hO3.block g2 HB.out.2.2.2.2).trans HF2.out.2.2)))
         clear hF3 hB3 hO3 d8 d9 d10 d11 d12 d13 d14 f8 f9 f10 f11 f12 f13 f14
         refine hK.out _ _ HF3.out.2.2 (fun hHeld2 => ?_)
         clear hK K hHeld hHeld2
         refine wpAnyH_done (by kernel_rfl) ?_ _
         have hend := cho_end (o := true) HB.out.1 HR.out.1 H2.out.1 HB.out.2.2.1 HV8.out.2.2 HF1.out.2.1 HF2.out.2.1 HF3.out.2.1 HF3.out.1 HY.out.1 HY.out.2.1 HY.out.2.2 HGT.out
         have HN := jI (jA hend.1 (jA (HB.out.2.1.trans hend.2.1) hend.2.2))
         clear hend
         go_wp2_with fail
         go_roundw
         case rel => (obtain ⟨a, ha, hk⟩ := HK.out; exact ⟨optK kk true (some (n, s')), qq, jI ⟨HN.out.1, HN.out.2.1⟩, Or.inr (Or.inr ⟨by go_num, jI ⟨a, some (n, s'), ha, by rw [HREC.out, HY.out.1]; rfl, by rw [hk]⟩⟩)⟩)
         case measure => simp [intOf]
   · obtain ⟨a, c, ha, hc, hk⟩ := HK.out
     have HF := jI (jA ha (jA hc hk))
     clear ha hc hk
     go_wp2_with fail
     go_ret
     exact ⟨kk, qk, HR.out.1, HR.out.2, Or.inr ⟨rfl, a, c, HF.out.1, HF.out.2.1, HF.out.2.2⟩⟩
end
end
section
open Go Go.RowKit
set_option maxRecDepth 100000
def halV (n : Nat) : Value := .agg #[.int .i64 0, .int .i64 ((n / 2 : Nat) : Int), .int .i64 ((n / 2 : Nat) : Int), .int .i64 ((n - n / 2 : Nat) : Int)]
set_option maxHeartbeats 4000000 in
theorem halves_any (n : Nat) (hn : n ≤ 4194304) (w : World) : Calls Tryz.prog 35 #[.int .i64 (n : Int)] w fun y w' => y = .returned (halV n) ∧ Below w.heap.size w w' := by
 obtain ⟨W1, g, hW1, hg, hb1, hq, hsz⟩ := one_box w (.cells #[.int .i64 0, .int .i64 0, .int .i64 0, .int .i64 0] 72)
 have hres : Tryz.f35.results = #[.cell 2 72] := by kernel_rfl
 have HE := jI (jA hb1 (jA hq (show w.heap.size ≤ g by omega)))
 have HW := jI (jA hW1 hg)
 obtain ⟨y0, y1, y2, y3⟩ := cells4 hq
 have e0 := frozen_own hq 0; have e1 := frozen_own hq 1; have e2 := frozen_own hq 2; have e3 := frozen_own hq 3
 obtain ⟨a, ha⟩ : ∃ a : Int, a = (n : Int) := ⟨_, rfl⟩
 obtain ⟨h, hh⟩ : ∃ h : Int, h = ((n / 2 : Nat) : Int) := ⟨_, rfl⟩
 obtain ⟨r, hr⟩ : ∃ r : Int, r = ((n - n / 2 : Nat) : Int) := ⟨_, rfl⟩
 have i1 : a.tdiv 2 = h := by rw [ha, hh]; rw [Int.tdiv_eq_ediv_of_nonneg (by omega)]; omega
 have i2 : IntKind.i64.wrap h = h := IntWalk.i64_in _ (by omega)
 have i3 : a - h = r := by omega
 have i4 : IntKind.i64.wrap r = r := IntWalk.i64_in _ (by omega)
 unfold halV
 rw [← ha, ← hh, ← hr]
 clear hW1 hg hb1 hq hsz hn ha hh hr
 go_enter Tryz.func35, Tryz.ntmps35
 go_upto_region 1 with fail
 rw [← HW.out.1, ← HW.out.2]
 go_wp2_with fail
 obtain ⟨F, hF, hE, hbQ, hoth, hsF⟩ := put4e HE.out.2.1 (.int .i64 0) (.int .i64 h) (.int .i64 h) (.int .i64 r)
 rw [← hF]
 refine bodyPost_ret (v := .agg #[.int .i64 0, .int .i64 h, .int .i64 h, .int .i64 r]) ?_ rfl ⟨rfl, HE.out.1.trans (hbQ _ HE.out.2.2)⟩
 clear hF hbQ hoth hsF y0 y1 y2 y3 e0 e1 e2 e3
 obtain ⟨x0, x1, x2, x3⟩ := cells4 hE
 simp only [results, hres]
 go_simp
end
section
open Go Go.RowKit
set_option maxRecDepth 100000
theorem TBox.kind {w : World} {q p : Nat} {t : Tm} (h : TBox w q p t) (j : Nat) (u : Value) (hu : w.cell? ⟨q, j, none⟩ = some u) : (∀ A n c, u ≠ .slice A n c) ∧ (∀ x, u ≠ .int .u8 x) := by
 unfold TBox at h
 rw [cell_of_row w q j _ _ (0, 0) h] at hu
 match j, hu with
 | 0, hu => simp at hu; subst hu; exact ⟨fun _ _ _ e => (by cases e), fun _ e => (by cases e)⟩
 | 1, hu => simp at hu; subst hu; exact ⟨fun _ _ _ e => (by cases e), fun _ e => (by cases e)⟩
 | 2, hu => simp at hu; subst hu; exact ⟨fun _ _ _ e => (by cases e), fun _ e => (by cases e)⟩
 | 3, hu => simp at hu; subst hu; exact ⟨fun _ _ _ e => (by cases e), fun _ e => (by cases e)⟩
 | 4, hu => simp at hu; subst hu; exact ⟨fun _ _ _ e => (by cases e), fun _ e => (by cases e)⟩
 | 5, hu =>
   simp at hu; subst hu
   by_cases he : t.dead = 0
   · rw [he, er_zero]; exact ⟨fun _ _ _ e => (by cases e), fun _ e => (by cases e)⟩
   · rw [er_ne he]; exact ⟨fun _ _ _ e => (by cases e), fun _ e => (by cases e)⟩
 | j + 6, hu => simp at hu
theorem SlT.avoid {w : World} {T : Nat → Prop} {v : Value} {bs : List UInt8} {q p : Nat} {t : Tm} (h : SlT w T v bs) (hb : TBox w q p t) : SlT w (fun k => T k ∧ k ≠ q) v bs := by
 obtain ⟨A, c, rfl, h1, h2, h3⟩ := h
 refine ⟨A, c, rfl, h1, h2, ?_⟩
 rcases h3 with h3 | ⟨bk, off, rfl, hT, hc⟩
 · exact Or.inl h3
 · by_cases hl : bs.length = 0
   · exact Or.inl (List.eq_nil_of_length_eq_zero hl)
   · refine Or.inr ⟨bk, off, rfl, ⟨hT, fun e => ?_⟩, hc⟩
     subst e
     exact (hb.kind _ _ (hc 0 (by omega))).2 _ rfl
theorem ListsT.avoid {w : World} {T : Nat → Prop} {v : Value} {l : List (List UInt8)} {q p : Nat} {t : Tm} (h : ListsT w T v l) (hb : TBox w q p t) : ListsT w (fun k => T k ∧ k ≠ q) v l := by
 obtain ⟨cs, ⟨hcl, A, c, rfl, h1, h2, h3⟩, he⟩ := h
 refine ⟨cs, ⟨hcl, A, c, rfl, h1, h2, ?_⟩, fun j hj => by obtain ⟨u, hu, hs⟩ := he j hj; exact ⟨u, hu, hs.avoid hb⟩⟩
 rcases h3 with h3 | ⟨bk, off, rfl, hT, hc⟩
 · exact Or.inl h3
 · by_cases hl : l.length = 0
   · exact Or.inl hl
   · refine Or.inr ⟨bk, off, rfl, ⟨hT, fun e => ?_⟩, hc⟩
     subst e
     obtain ⟨u, hu, hs⟩ := he 0 (by omega)
     obtain ⟨A', c', rfl, -, -⟩ := hs
     exact (hb.kind _ _ (hc 0 _ hu)).1 _ _ _ rfl
theorem ListsT.mono {w : World} {T T' : Nat → Prop} {v : Value} {l : List (List UInt8)} (h : ListsT w T v l) (ht : ∀ k, T k → T' k) : ListsT w T' v l := by
 obtain ⟨cs, hr, he⟩ := h
 exact ⟨cs, hr.mono ht, fun j hj => by obtain ⟨u, hu, hs⟩ := he j hj; exact ⟨u, hu, hs.mono ht⟩⟩
def opK (n : Nat) (L : Bool → List (List UInt8)) : Km := openKm n L false 0 stz
def firstS (first : List Int) : St := ⟨0, 0, ⟨0, 0, []⟩, first, []⟩
def chosen (n : Nat) (L : Bool → List (List UInt8)) (a c : Option (Nat × St)) : Km := optK (optK (opK n L) false a) true c
theorem chosen_kept (n : Nat) (L : Bool → List (List UInt8)) (a c : Option (Nat × St)) : (chosen n L a c).T = (opK n L).T ∧ (chosen n L a c).dead = 0 := by
 have h : ∀ k o r, (optK k o r).T = k.T ∧ (optK k o r).dead = k.dead := fun k o r => by
   cases r with
   | none => exact ⟨rfl, rfl⟩
   | some r => unfold optK; by_cases h : k.saves < r.1 <;> simp [h]
 have h1 := h (opK n L) false a
 have h2 := h (optK (opK n L) false a) true c
 exact ⟨h2.1.trans h1.1, h2.2.trans h1.2⟩
def OpenP (C : ConD) (w : World) (S : Nat → Prop) (p n : Nat) (d : Dk) (L : Bool → List (List UInt8)) (first : List Int) (e : Ending) (w' : World) : Prop :=
 (e = .returned (.tuple #[.pointer none, er 14]) ∧ (recS (L false) = none ∨ recS (L true) = none) ∧ C.DK w' S p d ∧ Turn S S w w') ∨
 (∃ a c, recS (L false) = some a ∧ recS (L true) = some c ∧
   (((chosen n L a c).saves ≠ 0 ∧ ∃ b Q q, e = .returned (.tuple #[.pointer (some ⟨b, 0, none⟩), .nilIface]) ∧ KB C w' S b Q p d (chosen n L a c) q ∧ Turn S (KS S b Q) w w') ∨
    ((chosen n L a c).saves = 0 ∧ ∃ S' b Q q, KB C w' S' b Q p (saveR d (chosen n L a c) (firstS first)).1 (saveR d (chosen n L a c) (firstS first)).2.1 q ∧ Turn S (KS S' b Q) w w' ∧
      (((saveR d (chosen n L a c) (firstS first)).2.2 = 0 ∧ e = .returned (.tuple #[.pointer (some ⟨b, 0, none⟩), .nilIface])) ∨
       ((saveR d (chosen n L a c) (firstS first)).2.2 ≠ 0 ∧ e = .returned (.tuple #[.pointer none, er (saveR d (chosen n L a c) (firstS first)).2.2]))))))
def plF (A : Option Addr) (n c : Nat) : Pl := ⟨none, 0, 0, A, n, c, none, 0, 0, none, 0, 0, none, none, 0, 0⟩
end
section
open Go Go.RowKit
set_option maxRecDepth 100000
def opC (hv rv : Int) (c4 c5 : Value) : Array Value := #[.int .i64 0, .int .i64 hv, .int .i64 hv, .int .i64 rv, c4, c5, .int .i64 0, .int .i64 0, .int .i64 0, .int .i64 0, .int .i64 0, .int .i64 0, .slice none 0 0, .slice none 0 0, .slice none 0 0, .nilIface]
structure OpB (w W : World) (b : Nat) (hv rv : Int) (c4 c5 r0 r1 : Value) : Prop where
 bel : Below w.heap.size w W
 kb : W.heap[b]? = some (.cells (opC hv rv c4 c5) 75 (0, 0))
 rb : W.heap[b + 1]? = some (.cells #[r0, r1] 85 (0, 0))
 lo : w.heap.size ≤ b
theorem cells2o {w : World} {b t : Nat} {v0 v1 : Value} (h : w.heap[b]? = some (.cells #[v0, v1] t (0, 0))) : w.cell? ⟨b, 0, none⟩ = some v0 ∧ w.cell? ⟨b, 1, none⟩ = some v1 := by
 refine ⟨?_, ?_⟩
 all_goals
   rw [cell_of_row w b _ _ _ (0, 0) h]; rfl
section
variable {C : ConD} {w W W' : World} {S : Nat → Prop} {b p : Nat} {d : Dk} {hv rv : Int} {c4 c5 r0 r1 : Value}
theorem OpB.lt (h : OpB w W b hv rv c4 c5 r0 r1) : b + 1 < W.heap.size := obj_lt h.rb
theorem OpB.more (h : OpB w W b hv rv c4 c5 r0 r1) (hb : Below W.heap.size W W') : OpB w W' b hv rv c4 c5 r0 r1 :=
 ⟨h.bel.trans (hb.mono h.bel.size), (hb.block b (by have := h.lt; omega)).trans h.kb, (hb.block (b + 1) h.lt).trans h.rb, h.lo⟩
theorem OpB.two (h : OpB w W b hv rv c4 c5 r0 r1) (i j : Nat) (x y c4' c5' r0' r1' : Value) (h1 : (opC hv rv c4 c5).set! i x = opC hv rv c4' c5') (h2 : (#[r0, r1] : Array Value).set! j y = #[r0', r1']) : ∃ F, F = (W.setCell ⟨b, i, none⟩ x).setCell ⟨b + 1, j, none⟩ y ∧ OpB w F b hv rv c4' c5' r0' r1' ∧ (∀ k, k ≠ b → k ≠ b + 1 → F.heap[k]? = W.heap[k]?) ∧ F.heap.size = W.heap.size := by
 refine ⟨_, rfl, ⟨(h.bel.setCell (show w.heap.size ≤ b from h.lo) x).setCell (show w.heap.size ≤ b + 1 by have := h.lo; omega) y, ?_, ?_, h.lo⟩, fun k hk hk2 => by rw [setc_oth y hk2, setc_oth x hk], by simp only [World.size_setCell]⟩
 · rw [setc_oth y (show b ≠ b + 1 by omega), setc h.kb, h1]
 · rw [setc ((setc_oth x (show b + 1 ≠ b by omega)).trans h.rb), h2]
structure OpT (b : Nat) (W : World) (q p : Nat) (t : Tm) (v : Value) (l : List (List UInt8)) : Prop where
 box : TBox W q p t
 rec_ : OwnL W (b + 2) (fun k => b + 2 ≤ k) v l
 low : b + 2 ≤ q
 ne : v.ownBlock ≠ some q
theorem OpT.more {q : Nat} {t : Tm} {v : Value} {l : List (List UInt8)} (h : OpT b W q p t v l) (hb : Below W.heap.size W W') : OpT b W' q p t v l :=
 ⟨by have := h.box; unfold TBox at this ⊢; rw [hb.block q h.box.lt]; exact this, h.rec_.more hb, h.low, h.ne⟩
theorem OpT.two {q : Nat} {t : Tm} {v : Value} {l : List (List UInt8)} (h : OpT b W q p t v l) (hk : ∀ k, k ≠ b → k ≠ b + 1 → W'.heap[k]? = W.heap[k]?) (hs : W'.heap.size = W.heap.size) : OpT b W' q p t v l :=
 ⟨by have := h.box; have hl := h.low; unfold TBox at this ⊢; rw [hk q (by omega) (by omega)]; exact this,
   h.rec_.kept (fun k _ ho => hk k (by rcases ho with h1 | h1; (have h2 : b + 2 ≤ k := h1; omega); (have := (h.rec_.lt k h1).1; omega)) (by rcases ho with h1 | h1; (have h2 : b + 2 ≤ k := h1; omega); (have := (h.rec_.lt k h1).1; omega))) (Nat.le_of_eq hs.symm), h.low, h.ne⟩
end
theorem open_kb {C : ConD} {w wr : World} {S : Nat → Prop} {p n b q0 q1 : Nat} {d : Dk} {L : Bool → List (List UInt8)} {v0 v1 : Value} (hdk : C.DK wr S p d) (hS : ∀ x, S x → x < w.heap.size) (hR : ∀ o, Rests d (aAt n o) (aLen n o) (L o))
   (hO : OpB w wr b ((n / 2 : Nat) : Int) ((n - n / 2 : Nat) : Int) (.pointer (some ⟨q0, 0, none⟩)) (.pointer (some ⟨q1, 0, none⟩)) v0 v1) (h0 : OpT b wr q0 p (openT 0 (n / 2) (L false)) v0 (L false)) (h1 : OpT b wr q1 p (openT (n / 2) (n - n / 2) (L true)) v1 (L true)) (hlt : q0 < q1) (Q : Bool → Nat) (hQ : Q = fun o => if o = true then q1 else q0) :
   KB C wr S b Q p d (opK n L) plz := by
 have hlo := hO.lo
 have l0 := h0.low
 have l1 := h1.low
 subst hQ
 refine ⟨fun o => ?_, by show q0 ≠ q1; omega, ?_, ⟨fun e => by have := hS b e; omega, by show b ≠ q0; omega, by show b ≠ q1; omega⟩, ⟨?_, RowT.nil_ _ _ _, SlT.nil_ _ _⟩, ⟨fun e he => (by cases he), fun z hz => (by cases hz)⟩⟩
 · cases o
   · exact ⟨hdk, h0.box, fun e => by have : q0 < w.heap.size := hS q0 e; omega, (hR false).inside, (hR false).five, (hR false).state.fits, encL_ge _⟩
   · exact ⟨hdk, h1.box, fun e => by have : q1 < w.heap.size := hS q1 e; omega, (hR true).inside, (hR true).five, (hR true).state.fits, encL_ge _⟩
 · exact hO.kb
 · exact ⟨[], RowT.nil_ _ _ _, fun j h => by simp [opK, openKm, stz] at h⟩
theorem open_lists {w wr : World} {S : Nat → Prop} {p b q0 q1 : Nat} {t0 t1 : Tm} {L : Bool → List (List UInt8)} {v0 v1 : Value} (hS : ∀ x, S x → x < w.heap.size) (hlo : w.heap.size ≤ b) (h0 : OpT b wr q0 p t0 v0 (L false)) (h1 : OpT b wr q1 p t1 v1 (L true)) (hs : w.heap.size ≤ wr.heap.size) (Q : Bool → Nat) (hQ : Q = fun o => if o = true then q1 else q0) :
   ListsT wr (Av wr (KS S b Q)) v0 (L false) ∧ ListsT wr (Av wr (KS S b Q)) v1 (L true) := by
 subst hQ
 have l0 := h0.low
 have l1 := h1.low
 have go : ∀ {v : Value} {l : List (List UInt8)}, OwnL wr (b + 2) (fun k => b + 2 ≤ k) v l → ListsT wr (Av wr (KS S b fun o => if o = true then q1 else q0)) v l := fun h =>
   (((h.lists (fun k => b + 2 ≤ k ∧ k < wr.heap.size) (fun k h1 h2 => ⟨h1, h2⟩) fun k hk => h.lt k hk).avoid h0.box).avoid h1.box).mono fun k hk => ⟨hk.1.1.2, fun e => by
     rcases e with e | e | e | e
     · have := hS k e; have := hk.1.1.1; omega
     · exact hk.1.2 e
     · exact hk.2 e
     · have := hk.1.1.1; omega⟩
 exact ⟨go h0.rec_, go h1.rec_⟩
theorem open_back {w wr w8 : World} {S S' : Nat → Prop} {b : Nat} {Q : Bool → Nat} (hS : ∀ x, S x → x < w.heap.size) (h1 : Turn S (KS S b Q) w wr) (h2 : Turn (KS S b Q) (KS S b Q) wr w8) (hf : ∀ x, KS S b Q x → S x ∨ w.heap.size ≤ x) (hS' : ∀ x, S' x → S x ∨ w.heap.size ≤ x) : Turn S S' w w8 :=
 ⟨(h1.trans h2).kept, hS'⟩
set_option maxHeartbeats 32000000 in
theorem Open_any {C : ConD} (E : ConE C) (w : World) (S : Nat → Prop) (p : Nat) (d : Dk) (n : Nat) (hn : n = d.B.length) (h : C.DK w S p d) (L : Bool → List (List UInt8)) (hR : ∀ o, Rests d (aAt n o) (aLen n o) (L o))
   (A : Option Addr) (nc cc : Nat) (first : List Int) (hf : Ints w (.slice A nc cc) first) (hm : mayC first = true) (hfS : IntsT w (Av w S) (.slice A nc cc) first) (hsz : d.B.length ≤ 1048576) (hsd : ∀ S' W, Turn S S' w W → StdP W) (hln : ∀ o, ∀ x ∈ L o, x.length ≤ 140737488355328) :
   Calls Tryz.prog 12 #[.pointer (some ⟨p, 0, none⟩), .slice A nc cc] w (OpenP C w S p n d L first) := by
 have HFS := jI (jA hfS hsz)
 have HSD := jI hsd
 have HLN := jI hln
 clear hsd hln hfS hsz
 have hB := (C.ok h).2.2
 have CC := jI (Check_own A nc cc first w hf 0 (by rw [hm]; rfl))
 have CS := jI fun W (hW : C.DK W S p d) => E.cSize W S p d hW
 have CH := fun W => halves_any n (by omega) W
 unfold halV at CH
 obtain ⟨hv, hhv⟩ : ∃ hv : Int, hv = ((n / 2 : Nat) : Int) := ⟨_, rfl⟩
 obtain ⟨rv, hrv⟩ : ∃ rv : Int, rv = ((n - n / 2 : Nat) : Int) := ⟨_, rfl⟩
 rw [← hhv, ← hrv] at CH
 have CH := jI CH
 have fr := jI fun W (hW : Below w.heap.size w W) => C.frame h fun x hx => hW.block x (C.foot h x hx)
 have C0 := fun W (hW : Below w.heap.size w W) => Open_yes (fr.out W hW) 0 (n / 2) (by unfold inI; omega) (by unfold inI; omega) (hR false).five (hR false).read.1 (L false) (encL (L false)).length (by rw [(show readB d ((0 : Nat) : Int) ((n / 2 : Nat) : Int) = areaT d.B 0 (n / 2) from (hR false).read.2)]; exact readT_lies (hR false).lies)
 have C1 := fun W (hW : Below w.heap.size w W) => Open_yes (fr.out W hW) (n / 2) (n - n / 2) (by unfold inI; omega) (by unfold inI; omega) (hR true).five (hR true).read.1 (L true) (encL (L true)).length (by rw [(show readB d ((n / 2 : Nat) : Int) ((n - n / 2 : Nat) : Int) = areaT d.B (n / 2) (n - n / 2) from (hR true).read.2)]; exact readT_lies (hR true).lies)
 rw [← hhv] at C0 C1
 rw [← hrv] at C1
 rw [show ((0 : Nat) : Int) = 0 from rfl] at C0
 have C0 := jI C0
 have C1 := jI C1
 have HE := jI (jA h (jA hR (jA hf (jA hm (jA hn (jA hhv hrv))))))
 rw [← hn] at CS
 clear h hR hf hm hn hB hhv hrv
 go_enter Tryz.func12, Tryz.ntmps12
 go_upto_region 3 with (go_at_call 14; go_must (refine CC.out.mono ?_; rintro y w1 ⟨rfl, hb⟩; rw [er_zero]; have H1 := jI hb; clear hb))
 go_upto_region 5 with (first
   | (go_at_call 36; go_must (refine (CS.out w1 (fr.out w1 H1.out)).mono ?_; rintro y w2 ⟨rfl, hb⟩; have H2 := jI (H1.out.trans (hb.mono H1.out.size)); clear hb))
   | (go_at_call 35; go_must (refine (CH.out w2).mono ?_; rintro y w3 ⟨rfl, hb⟩; have H3 := jI (H2.out.trans (hb.mono H2.out.size)); clear hb)))
 obtain ⟨W4, b, g7, hW4, hb4, hg7, hbb, hq0, hq1, hsz⟩ := two_box w3 (.cells (opC hv rv (.pointer none) (.pointer none)) 75) (.cells #[.slice none 0 0, .slice none 0 0] 85)
 unfold opC at hW4
 rw [← hW4, ← hb4, ← hg7]
 rw [hg7] at hq1
 have HO := jI (show OpB w W4 b hv rv (.pointer none) (.pointer none) (.slice none 0 0) (.slice none 0 0) from ⟨H3.out.trans (hbb.mono H3.out.size), hq0, hq1, by have := H3.out.size; omega⟩)
 have HG7 := jI hg7
 have z0 : W4.cell? ⟨b, 0, none⟩ = some (.int .i64 0) := by rw [cell_of_row W4 b 0 _ _ (0, 0) hq0]; rfl
 have z1 : W4.cell? ⟨b, 1, none⟩ = some (.int .i64 hv) := by rw [cell_of_row W4 b 1 _ _ (0, 0) hq0]; rfl
 have z2 : W4.cell? ⟨b, 2, none⟩ = some (.int .i64 hv) := by rw [cell_of_row W4 b 2 _ _ (0, 0) hq0]; rfl
 have z3 : W4.cell? ⟨b, 3, none⟩ = some (.int .i64 rv) := by rw [cell_of_row W4 b 3 _ _ (0, 0) hq0]; rfl
 clear hW4 hb4 hbb hq0 hq1 hsz H1 H2 H3 CC CS CH
 rw [hg7]
 clear hg7
 go_wp2_with fail
 clear z0 z1 z2 z3
 go_loopw [32] (fun ii wr => (ii = .int .i64 0 ∧ Hid (OpB w wr b hv rv (.pointer none) (.pointer none) (.slice none 0 0) (.slice none 0 0))) ∨ (ii = .int .i64 1 ∧ ∃ q0 v0, Hid (OpB w wr b hv rv (.pointer (some ⟨q0, 0, none⟩)) (.pointer none) v0 (.slice none 0 0) ∧ OpT b wr q0 p (openT 0 (n / 2) (L false)) v0 (L false))) ∨ (ii = .int .i64 2 ∧ ∃ q0 v0 q1 v1, Hid (OpB w wr b hv rv (.pointer (some ⟨q0, 0, none⟩)) (.pointer (some ⟨q1, 0, none⟩)) v0 v1 ∧ OpT b wr q0 p (openT 0 (n / 2) (L false)) v0 (L false) ∧ OpT b wr q1 p (openT (n / 2) (n - n / 2) (L true)) v1 (L true) ∧ q0 < q1))) (fun ii _ => 2 - (intOf ii).toNat)
 case atStart => exact Or.inl ⟨rfl, HO⟩
 case round =>
   rcases hrel with ⟨rfl, HR⟩ | ⟨rfl, q0, v0, HR⟩ | ⟨rfl, q0, v0, q1, v1, HR⟩
   · have ix : ∀ W, (Instr.index 72 (.agg #[.int .i64 0, .int .i64 hv, .int .i64 hv, .int .i64 rv]) (.int .i64 0)).run Tryz.prog W = .ok (.agg #[.int .i64 0, .int .i64 hv]) W := fun _ => by kernel_rfl
     obtain ⟨W5, g5, hW5, hg5, hb5, hq5, hsz5⟩ := one_box wr (.cells #[.int .i64 0, .int .i64 hv] 64)
     have H5 := jI (HR.out.more hb5)
     have HB5 := jI hb5
     obtain ⟨x0, x1⟩ := cells2o hq5
     have HW5 := jI (jA hW5 hg5)
     clear hW5 hg5 hb5 hq5 hsz5
     go_upto_region 8 with fail
     rw [← HW5.out.1, ← HW5.out.2]
     clear ix
     go_upto_region 9 with (go_at_call 23; go_must (refine (C0.out W5 H5.out.bel).mono ?_; rintro y w6 ⟨qn, vn, rfl, hbx, hown, hqn, hnq, hb6⟩; obtain ⟨An, cn, hvn, -, -⟩ := hown.form; have H6 := jI (jA (H5.out.more hb6) (jA (show OpT b w6 qn p (openT 0 (n / 2) (L false)) vn (L false) from ⟨hbx, hown.mono (by have := H5.out.lt; omega) (fun k hk => by have := H5.out.lt; have hk' : W5.heap.size ≤ k := hk; show b + 2 ≤ k; omega), by have := H5.out.lt; omega, hnq⟩) (jA hb6 hqn))); clear hbx hown hqn hnq hb6; subst hvn))
     obtain ⟨nn, hnn⟩ : ∃ nn, nn = (L false).length := ⟨_, rfl⟩
     rw [← hnn] at H6 ⊢
     clear hnn x0 x1
     have y4 : w6.cell? ⟨b, 4, none⟩ = some (.pointer none) := by rw [cell_of_row w6 b 4 _ _ (0, 0) H6.out.1.kb]; rfl
     have f4 := frozen_of_row w6 b 4 _ _ H6.out.1.kb
     have yr : w6.cell? ⟨b + 1, 0, none⟩ = some (.slice none 0 0) := by rw [cell_of_row w6 (b + 1) 0 _ _ (0, 0) H6.out.1.rb]; rfl
     have fr2 := frozen_of_row w6 (b + 1) 0 _ _ H6.out.1.rb
     go_upto_region 12 with fail
     obtain ⟨F, hF, hO, hoth, hsF⟩ := H6.out.1.two 4 0 (.pointer (some ⟨qn, 0, none⟩)) (.slice An nn cn) (.pointer (some ⟨qn, 0, none⟩)) (.pointer none) (.slice An nn cn) (.slice none 0 0) rfl rfl
     rw [← hF]
     have HF := jI (jA hO (jA hoth hsF))
     clear hF hO hoth hsF y4 f4 yr fr2
     go_wp2_with fail
     go_roundw
     case rel => exact Or.inr (Or.inl ⟨by go_num, qn, _, jI ⟨HF.out.1, H6.out.2.1.two HF.out.2.1 HF.out.2.2⟩⟩)
     case measure => simp [intOf]
   · have ix : ∀ W, (Instr.index 72 (.agg #[.int .i64 0, .int .i64 hv, .int .i64 hv, .int .i64 rv]) (.int .i64 1)).run Tryz.prog W = .ok (.agg #[.int .i64 hv, .int .i64 rv]) W := fun _ => by kernel_rfl
     obtain ⟨W5, g5, hW5, hg5, hb5, hq5, hsz5⟩ := one_box wr (.cells #[.int .i64 hv, .int .i64 rv] 64)
     have H5 := jI (HR.out.1.more hb5)
     have HB5 := jI hb5
     obtain ⟨x0, x1⟩ := cells2o hq5
     have HW5 := jI (jA hW5 hg5)
     clear hW5 hg5 hb5 hq5 hsz5
     go_upto_region 8 with fail
     rw [← HW5.out.1, ← HW5.out.2]
     clear ix
     go_upto_region 9 with (go_at_call 23; go_must (refine (C1.out W5 H5.out.bel).mono ?_; rintro y w6 ⟨qn, vn, rfl, hbx, hown, hqn, hnq, hb6⟩; obtain ⟨An, cn, hvn, -, -⟩ := hown.form; have H6 := jI (jA (H5.out.more hb6) (jA (show OpT b w6 qn p (openT (n / 2) (n - n / 2) (L true)) vn (L true) from ⟨hbx, hown.mono (by have := H5.out.lt; omega) (fun k hk => by have := H5.out.lt; have hk' : W5.heap.size ≤ k := hk; show b + 2 ≤ k; omega), by have := H5.out.lt; omega, hnq⟩) (jA hb6 hqn))); clear hbx hown hqn hnq hb6; subst hvn))
     obtain ⟨nn, hnn⟩ : ∃ nn, nn = (L true).length := ⟨_, rfl⟩
     rw [← hnn] at H6 ⊢
     clear hnn x0 x1
     have y4 : w6.cell? ⟨b, 5, none⟩ = some (.pointer none) := by rw [cell_of_row w6 b 5 _ _ (0, 0) H6.out.1.kb]; rfl
     have f4 := frozen_of_row w6 b 5 _ _ H6.out.1.kb
     have yr : w6.cell? ⟨b + 1, 1, none⟩ = some (.slice none 0 0) := by rw [cell_of_row w6 (b + 1) 1 _ _ (0, 0) H6.out.1.rb]; rfl
     have fr2 := frozen_of_row w6 (b + 1) 1 _ _ H6.out.1.rb
     go_upto_region 12 with fail
     obtain ⟨F, hF, hO, hoth, hsF⟩ := H6.out.1.two 5 1 (.pointer (some ⟨qn, 0, none⟩)) (.slice An nn cn) (.pointer (some ⟨q0, 0, none⟩)) (.pointer (some ⟨qn, 0, none⟩)) v0 (.slice An nn cn) rfl rfl
     rw [← hF]
     have HF := jI (jA hO (jA hoth hsF))
     clear hF hO hoth hsF y4 f4 yr fr2
     go_wp2_with fail
     go_roundw
     case rel => exact Or.inr (Or.inr ⟨by go_num, q0, v0, qn, _, jI ⟨HF.out.1, ((HR.out.2.more HB5.out).more H6.out.2.2.1).two HF.out.2.1 HF.out.2.2, H6.out.2.1.two HF.out.2.1 HF.out.2.2, by have h1 := HR.out.2.box.lt; have h2 := HB5.out.size; have h3 := H6.out.2.2.2; omega⟩⟩)
     case measure => simp [intOf]
   · obtain ⟨A0, cv0, hv0, -, -⟩ := HR.out.2.1.rec_.form
     obtain ⟨A1, cv1, hv1, -, -⟩ := HR.out.2.2.1.rec_.form
     subst hv0
     subst hv1
     obtain ⟨Q, hQ⟩ : ∃ Q : Bool → Nat, Q = fun o => if o = true then q1 else q0 := ⟨_, rfl⟩
     have hk0 := open_kb (fr.out wr HR.out.1.bel) (fun x hx => C.foot HE.out.1 x hx) HE.out.2.1 (by rw [← HE.out.2.2.2.2.2.1, ← HE.out.2.2.2.2.2.2]; exact HR.out.1) HR.out.2.1 HR.out.2.2.1 HR.out.2.2.2 Q hQ
     have hls := open_lists (fun x hx => C.foot HE.out.1 x hx) HR.out.1.lo HR.out.2.1 HR.out.2.2.1 HR.out.1.bel.size Q hQ
     have hfoot : ∀ x, KS S b Q x → S x ∨ w.heap.size ≤ x := fun x hx => by
       have h1 := HR.out.1.lo
       have h2 := HR.out.2.1.low
       have h3 := HR.out.2.2.1.low
       rw [hQ] at hx
       rcases hx with hx | hx | hx | hx
       · exact Or.inl hx
       · exact Or.inr (by have : x = q0 := hx; omega)
       · exact Or.inr (by have : x = q1 := hx; omega)
       · exact Or.inr (by omega)
     have hT0 : Turn S (KS S b Q) w wr := ⟨⟨HR.out.1.bel.os, HR.out.1.bel.tape, HR.out.1.bel.output, HR.out.1.bel.size, fun x hx _ => HR.out.1.bel.block x hx⟩, hfoot⟩
     have hsd : ∀ W, Turn (KS S b Q) (KS S b Q) wr W → StdP W := fun W ht => HSD.out _ _ (hT0.trans ht)
     have CCh := choose_any hk0 (HSD.out _ _ hT0) A0 _ cv0 A1 _ cv1 L hls.1 hls.2 hsd HLN.out
     have CCh := jI CCh
     have HK0 := jI (jA hk0 (jA hT0 hfoot))
     obtain ⟨m0, hm0⟩ : ∃ m, m = (L false).length := ⟨_, rfl⟩
     obtain ⟨m1, hm1⟩ : ∃ m, m = (L true).length := ⟨_, rfl⟩
     rw [← hm0, ← hm1] at CCh HR
     have yr0 : wr.cell? ⟨b + 1, 0, none⟩ = some (.slice A0 m0 cv0) := by rw [cell_of_row wr (b + 1) 0 _ _ (0, 0) HR.out.1.rb]; rfl
     have yr1 : wr.cell? ⟨b + 1, 1, none⟩ = some (.slice A1 m1 cv1) := by rw [cell_of_row wr (b + 1) 1 _ _ (0, 0) HR.out.1.rb]; rfl
     clear hk0 hls hfoot hT0 hsd hm0 hm1
     go_upto_region 14 with (go_at_call 37; go_must (refine CCh.out.mono ?_; rintro y w8 ⟨k8, q8, hk8, ht8, h8⟩; have H8 := jI (jA hk8 ht8); clear hk8 ht8; rcases h8 with ⟨rfl, hbad⟩ | ⟨rfl, aa, cc', ha, hc, rfl⟩))
     · rw [er_ne (show (14 : Nat) ≠ 0 by decide)]
       have HBD := jI hbad
       clear hbad yr0 yr1
       go_wp2_with fail
       go_ret2
       exact Or.inl ⟨by rw [er_ne (show (14 : Nat) ≠ 0 by decide)]; rfl, HBD.out, (H8.out.1.t false).dk, open_back (C.foot HE.out.1) HK0.out.2.1 H8.out.2 HK0.out.2.2 (fun x hx => Or.inl hx)⟩
     · have HAC := jI (jA ha hc)
       clear ha hc yr0 yr1
       have y7 : w8.cell? ⟨b, 7, none⟩ = some (.int .i64 ((chosen n L aa cc').saves : Int)) := H8.out.1.cell 7
       have H8 := jI (show KB C w8 S b Q p d (chosen n L aa cc') q8 ∧ Turn (KS S b Q) (KS S b Q) wr w8 from H8.out)
       have hch := chosen_kept n L aa cc'
       have htw : Turn S (KS S b Q) w w8 := open_back (C.foot HE.out.1) HK0.out.2.1 H8.out.2 HK0.out.2.2 HK0.out.2.2
       by_cases hz : (chosen n L aa cc').saves = 0
       rotate_left
       · have iz : ¬ ((chosen n L aa cc').saves : Int) = 0 := by omega
         have HF := jI (jA hz htw)
         obtain ⟨sv, hsv⟩ : ∃ sv, sv = (chosen n L aa cc').saves := ⟨_, rfl⟩
         rw [← hsv] at y7 iz
         clear hz hch htw hsv
         go_wp2_with fail
         go_ret2
         exact Or.inr ⟨aa, cc', HAC.out.1, HAC.out.2, Or.inl ⟨HF.out.1, b, Q, q8, rfl, H8.out.1, HF.out.2⟩⟩
       · have hin : InS w8 (Av w8 (KS S b Q)) (firstS first) (plF A nc cc) :=
           ⟨⟨⟨[], RowT.nil_ _ _ _, fun j h => by simp [firstS] at h⟩, (RowT.kept HFS.out.1 fun x hx hx2 => htw.kept.block x hx2 hx.2).mono fun x hx => ⟨Nat.lt_of_lt_of_le hx.1 htw.kept.size, fun e => by rcases HK0.out.2.2 x e with h1 | h1; exact hx.2 h1; (have := hx.1; omega)⟩, SlT.nil_ _ _⟩,
             (fun e he => (by cases he)), HE.out.2.2.1.2, ⟨Nat.zero_le _, fun e he => (by cases he)⟩, by have := (mayC_all HE.out.2.2.2.1).1.2; show first.length ≤ 1000; omega, Nat.zero_le _, (show inI (0 : Int) from by unfold inI; decide), (show inI (0 : Int) from by unfold inI; decide)⟩
         have hcalm : Calm d (chosen n L aa cc') := ⟨(HE.out.2.1 false).calm, HFS.out.2, fun o => by rw [hch.1]; rfl⟩
         have CSv : Calls Tryz.prog 7 #[.pointer (some ⟨b, 0, none⟩), .agg #[.int .i64 0, .int .i64 0, .int .i64 0, .int .i64 0, .slice none 0 0, .slice A nc cc, .slice none 0 0]] w8 (SavP C w8 S b Q p (saveR d (chosen n L aa cc') (firstS first))) := Save_live H8.out.1 hch.2 hcalm (by rw [hz]; omega) (HSD.out _ _ htw) (firstS first) (plF A nc cc) hin
         rw [hz] at y7
         unfold SavP at CSv
         obtain ⟨rr, hrr⟩ : ∃ rr, rr = saveR d (chosen n L aa cc') (firstS first) := ⟨_, rfl⟩
         rw [← hrr] at CSv
         have HRR := jI hrr
         have CSv := jI CSv
         have HF := jI (jA hz htw)
         clear hz hch htw hin hcalm hrr
         go_upto_region 18 with (go_at_call 7; go_must (refine CSv.out.mono ?_; rintro y w9 ⟨S9, q9, rfl, hk9, ht9⟩; have H9 := jI (jA hk9 ht9); clear hk9 ht9))
         clear y7 CSv
         by_cases he0 : rr.2.2 = 0
         · rw [he0, er_zero]
           have HZ0 := jI he0
           clear he0
           go_wp2_with fail
           go_ret2
           exact Or.inr ⟨aa, cc', HAC.out.1, HAC.out.2, Or.inr ⟨HF.out.1, S9, b, Q, q9, by rw [← HRR.out]; exact H9.out.1, HF.out.2.trans H9.out.2, Or.inl ⟨by rw [← HRR.out]; exact HZ0.out, rfl⟩⟩⟩
         · rw [er_ne he0]
           have HZ0 := jI he0
           clear he0
           go_wp2_with fail
           go_ret2
           exact Or.inr ⟨aa, cc', HAC.out.1, HAC.out.2, Or.inr ⟨HF.out.1, S9, b, Q, q9, by rw [← HRR.out]; exact H9.out.1, HF.out.2.trans H9.out.2, Or.inr ⟨by rw [← HRR.out]; exact HZ0.out, by rw [← HRR.out, er_ne HZ0.out]; rfl⟩⟩⟩
end
section
open Go Go.RowKit
set_option maxRecDepth 100000
theorem chosen_rest {n : Nat} {d : Dk} {L : Bool → List (List UInt8)} {o : Bool} {sv : Nat} {s : St} (h : KR n d L o sv s) : ∃ a c, recS (L false) = some a ∧ recS (L true) = some c ∧ chosen n L a c = openKm n L o sv s := by
 obtain ⟨x, hx, hy⟩ := h.oth
 have h1 := (recS_may h.cnt).2.1
 have hz : (opK n L).saves = 0 := rfl
 cases o with
 | false =>
   refine ⟨some (sv, s), x, h.cnt, hx, ?_⟩
   have e1 : optK (opK n L) false (some (sv, s)) = openKm n L false sv s := if_pos (by show (opK n L).saves < sv; rw [hz]; omega)
   unfold chosen
   rw [e1]
   cases x with
   | none => rfl
   | some y => exact if_neg (by have := hy y rfl; show ¬ sv < y.1; omega)
 | true =>
   refine ⟨x, some (sv, s), hx, h.cnt, ?_⟩
   unfold chosen
   have e2 : (optK (opK n L) false x).saves < sv := by
     cases x with
     | none => show (opK n L).saves < sv; rw [hz]; omega
     | some y =>
       have := hy y rfl
       show (if (opK n L).saves < y.1 then ({ opK n L with on := false, saves := y.1, kept := y.2 } : Km) else opK n L).saves < sv
       by_cases h2 : (opK n L).saves < y.1
       · rw [if_pos h2]; exact this
       · rw [if_neg h2, hz]; omega
   have e3 : (optK (opK n L) false x).T = (opK n L).T ∧ (optK (opK n L) false x).dead = 0 := by
     cases x with
     | none => exact ⟨rfl, rfl⟩
     | some y =>
       show (if (opK n L).saves < y.1 then ({ opK n L with on := false, saves := y.1, kept := y.2 } : Km) else opK n L).T = _ ∧ (if (opK n L).saves < y.1 then ({ opK n L with on := false, saves := y.1, kept := y.2 } : Km) else opK n L).dead = 0
       by_cases h2 : (opK n L).saves < y.1
       · rw [if_pos h2]; exact ⟨rfl, rfl⟩
       · rw [if_neg h2]; exact ⟨rfl, rfl⟩
   have e4 : optK (optK (opK n L) false x) true (some (sv, s)) = { optK (opK n L) false x with on := true, saves := sv, kept := s } := if_pos e2
   rw [e4]
   unfold openKm
   have := e3.1
   cases hk : optK (opK n L) false x with
   | mk a b c T dd =>
     rw [hk] at e3
     obtain ⟨e5, e6⟩ := e3
     simp only at e5 e6
     subst e6
     rw [e5]
     rfl
end
section
open Go
theorem lay_calm {n : Nat} {d : Dk} {k : Km} {L : Bool → List (List UInt8)} (o : Bool) (hsz : d.B.length = n) (hts : ∀ x, TState d (k.T x) (L x)) (har : ∀ x, (k.T x).at_ = aAt n x ∧ (k.T x).len = aLen n x) (hal : k.dead = 0)
   {b : List UInt8} {s : St} (hdec : decS b = some (k.saves + 1, s)) (hb : (k.T o).fin + 5 + b.length ≤ (k.T o).len) (hb4 : b.length ≤ 1048576)
   (hoth : ∃ x, recS (L (!o)) = some x ∧ ∀ y, x = some y → y.1 ≤ k.saves) (ha : d.armed < 0) :
   (layK d k o b s).2.2 = 0 ∧ KI n (layK d k o b s).1 (layK d k o b s).2.1 (upL L o (L o ++ [b])) ∧ (layK d k o b s).2.1.saves = k.saves + 1 ∧ (layK d k o b s).2.1.kept = s ∧ (layK d k o b s).1.armed < 0 := by
 obtain ⟨h1, h2, h3, h4, h5⟩ := append_calm (hts o) ha hb hb4
 have har' := app_armed (k.T o) b ha
 obtain ⟨ha0, hl⟩ := har o
 have hwi : Wi d.B (aAt n o) (aLen n o) (appS d (k.T o) b).1 := (Wi.refl d (hts o).calm _ _).app (by rw [hsz]; exact a_in n o) ⟨ha0, hl⟩ hb
 have hap : (aAt n (!o) + aLen n (!o) ≤ aAt n o ∨ aAt n o + aLen n o ≤ aAt n (!o)) := a_apart n o
 have e : layK d k o b s = ((appS d (k.T o) b).1, { k with on := o, saves := k.saves + 1, kept := s, T := upT k.T o (appT (k.T o) b 0) }, 0) := if_pos h1
 rw [e]
 refine ⟨rfl, ⟨h4.trans hsz, fun x => ?_, fun x => ?_, hal, ?_, ?_⟩, rfl, rfl, har'⟩
 · rcases bool_or o x with rfl | rfl
   · show TState _ (upT k.T x _ x) (upL L x _ x)
     rw [upT_at, upL_at]; exact h2
   · show TState _ (upT k.T o _ (!o)) (upL L o _ (!o))
     rw [upT_oth, upL_oth]
     refine (hts (!o)).other h2.on h2.calm h4 ?_
     rw [(har (!o)).1, (har (!o)).2]
     exact hwi.area hap (by rw [hsz]; exact a_in n (!o))
 · rcases bool_or o x with rfl | rfl
   · show (upT k.T x _ x).at_ = _ ∧ (upT k.T x _ x).len = _
     rw [upT_at]
     exact har x
   · show (upT k.T o _ (!o)).at_ = _ ∧ (upT k.T o _ (!o)).len = _
     rw [upT_oth]; exact har (!o)
 · show recS (upL L o _ o) = _
   rw [upL_at, recS_more, hdec]; rfl
 · show ∃ x, recS (upL L o _ (!o)) = _ ∧ _
   rw [upL_oth]
   obtain ⟨x, hx, hy⟩ := hoth
   exact ⟨x, hx, fun y e => by have := hy y e; show y.1 < k.saves + 1; omega⟩
theorem lBytes_32 {b : List UInt8} (h : b.length ≤ 32) : (lBytes b).length ≤ b.length + 4 := by
 have h1 : (Lib.decDigits b.length).length ≤ 2 := by
   by_cases h : b.length < 10
   · rw [Lib.decDigits_one h]; simp
   · rw [Lib.decDigits_two h (by omega)]; simp
 unfold lBytes lHead
 simp only [List.length_cons, List.length_append, List.length_nil]
 omega
theorem firstS_may {first : List Int} (h : mayC first = true) : mayS (firstS first) = true := by
 unfold mayS
 have h1 : mayE ⟨0, 0, []⟩ = true := by decide
 have h2 : (lastE ⟨0, 0, []⟩).2 = 0 := by decide
 simp only [firstS, Bool.and_eq_true, Bool.not_eq_true', decide_eq_true_eq, h, h1, h2]
 decide
theorem firstS_len {first : List Int} (h : mayC first = true) : (encS ((1 : Nat) : Int) (firstS first)).length ≤ 80 := by
 have h1 := encC_len31 h
 have h2 := lBytes_32 (b := encC first) (by omega)
 have h3 := lBytes_32 (b := []) (by simp)
 have h4 := lUint_two 0 (by omega)
 have h5 := lUint_two 1 (by omega)
 unfold encS numS
 simp only [firstS, List.length_append, List.length_nil, encEs, List.flatMap_nil]
 rw [show u64 ((1 : Nat) : Int) = 1 from rfl, show u64 (0 : Int) = 0 from rfl]
 simp only [List.length_nil] at h3
 omega
theorem firstS_ne {first : List Int} (h : mayC first = true) : sameS (firstS first) stz = false := by
 rw [Bool.eq_false_iff]
 intro e
 have := sameS_iff.1 e
 have h1 := (mayC_all h).1.1
 have h2 : first = [] := congrArg (fun s : St => s.conf) this
 rw [h2] at h1
 simp at h1
theorem blank_save {n : Nat} (hn : 200 ≤ n) {first : List Int} (hm : mayC first = true) :
   (saveR (newD n) (opK n fun _ => []) (firstS first)).2.2 = 0 ∧ KI n (saveR (newD n) (opK n fun _ => []) (firstS first)).1 (saveR (newD n) (opK n fun _ => []) (firstS first)).2.1 (upL (fun _ => []) false [encS ((1 : Nat) : Int) (firstS first)]) ∧
   (saveR (newD n) (opK n fun _ => []) (firstS first)).2.1.saves = 1 ∧ (saveR (newD n) (opK n fun _ => []) (firstS first)).2.1.kept = firstS first ∧ (saveR (newD n) (opK n fun _ => []) (firstS first)).1.armed < 0 := by
 have hl := firstS_len hm
 have hal : aLen n false = n / 2 := rfl
 have hr : ∀ x, Rests (newD n) (aAt n x) (aLen n x) [] := fun x => rests_new n _ _ (a_in n x) (a_five (by omega) x)
 have hf : fitT ((opK n fun _ => []).T (opK n fun _ => []).on) (encS (((opK n fun _ => []).saves + 1 : Nat) : Int) (firstS first)) = true := by
   unfold fitT
   rw [decide_eq_true_eq]
   show (encL []).length + 5 + (encS ((1 : Nat) : Int) (firstS first)).length ≤ aLen n false
   rw [hal, show (encL []).length = 0 from rfl]
   omega
 have e : saveR (newD n) (opK n fun _ => []) (firstS first) = layK (newD n) (opK n fun _ => []) false (encS ((1 : Nat) : Int) (firstS first)) (firstS first) := by
   unfold saveR
   rw [if_neg (by show ¬ (0 : Nat) ≠ 0; simp), if_neg (by show ¬ sameS (firstS first) stz = true; rw [firstS_ne hm]; decide), if_neg (by rw [firstS_may hm]; decide), if_pos hf]
   rfl
 rw [e]
 exact lay_calm (L := fun _ => []) false (List.length_replicate) (fun x => (hr x).state) (fun x => ⟨rfl, rfl⟩) rfl (decS_lay (firstS_may hm) (by omega) (Nat.zero_le _))
   (by show (encL []).length + 5 + _ ≤ aLen n false; rw [hal, show (encL []).length = 0 from rfl]; omega) (by omega) ⟨none, rfl, fun y e => by cases e⟩ (show (-1 : Int) < 0 by decide)
end
section
open Go Go.RowKit
set_option maxRecDepth 100000
structure LK (C : ConD) (w0 w : World) (S : Nat → Prop) (b : Nat) (Q : Bool → Nat) (p : Nat) (d : Dk) (k : Km) (q : Pl) : Prop where
 kb : KB C w S b Q p d k q
 low : ∀ x, KS S b Q x → w0.heap.size ≤ x
 bel : Below w0.heap.size w0 w
section
variable {C : ConD} {w0 w w' : World} {S S' : Nat → Prop} {b p n : Nat} {Q : Bool → Nat} {d d' : Dk} {k k' : Km} {q q' : Pl} {L : Bool → List (List UInt8)}
theorem LK.turn (h : LK C w0 w S b Q p d k q) (hd : KB C w' S' b Q p d' k' q') (ht : Turn (KS S b Q) (KS S' b Q) w w') : LK C w0 w' S' b Q p d' k' q' :=
 ⟨hd, ht.low h.low h.bel.size, h.bel.trans (ht.kept.below h.low h.bel.size)⟩
theorem LK.more (h : LK C w0 w S b Q p d k q) (hb : Below w.heap.size w w') : LK C w0 w' S b Q p d k q := ⟨h.kb.more hb, h.low, h.bel.trans (hb.mono h.bel.size)⟩
theorem LK.live (h : LK C w0 w S b Q p d k q) : Live C w0 w S p d := ⟨(h.kb.t false).dk, fun k hk => h.low k (Or.inl hk), h.bel⟩
theorem LK.std (h : LK C w0 w S b Q p d k q) (hs : StdP w0) : StdP w := hs.more h.bel
theorem Live.hsd (h : Live C w0 w S p d) (hs : StdP w0) : ∀ S' W, Turn S S' w W → StdP W := fun S' W ht => hs.more (h.below.trans (ht.kept.below h.low h.below.size))
theorem lies_small {A : List UInt8} {l : List (List UInt8)} (h : Lies A l) : ∀ x ∈ l, x.length ≤ A.length := by
 have h1 : ∀ (l : List (List UInt8)), ∀ x ∈ l, x.length ≤ (encL l).length := by
   intro l
   induction l with
   | nil => intro x hx; cases hx
   | cons y l ih =>
     intro x hx
     rw [encL_cons, List.length_append, enc1_len]
     rcases List.mem_cons.1 hx with rfl | hx
     · omega
     · have := ih x hx; omega
 intro x hx
 have := h1 l x hx
 have := h.fits
 omega
theorem KR.small {o : Bool} {sv : Nat} {s : St} (h : KR n d L o sv s) (x : Bool) : ∀ y ∈ L x, y.length ≤ n := fun y hy => by
 have h1 := lies_small (h.rest x).lies y hy
 rw [area_len (h.rest x).inside] at h1
 have := a_in n x
 omega
theorem live_first (E : ConE C) (hs : StdP w0) (h : Live C w0 w S p (newD n)) (h2 : 200 ≤ n) (hn : n ≤ 1048576) (A : Option Addr) (nc cc : Nat) (first : List Int) (hf : Ints w (.slice A nc cc) first) (hm : mayC first = true) (hfS : IntsT w (Av w S) (.slice A nc cc) first) :
   Calls Tryz.prog 12 #[.pointer (some ⟨p, 0, none⟩), .slice A nc cc] w fun y w' => ∃ S' b Q q, y = .returned (.tuple #[.pointer (some ⟨b, 0, none⟩), .nilIface]) ∧ LK C w0 w' S' b Q p (saveR (newD n) (opK n fun _ => []) (firstS first)).1 (saveR (newD n) (opK n fun _ => []) (firstS first)).2.1 q ∧ Turn S (KS S' b Q) w w' := by
 have hl : (newD n).B.length = n := List.length_replicate
 refine (Open_any E w S p (newD n) n hl.symm h.dk (fun _ => []) (fun x => rests_new n _ _ (a_in n x) (a_five (by omega) x)) A nc cc first hf hm hfS (by rw [hl]; exact hn) (h.hsd hs) (fun o x hx => by cases hx)).mono ?_
 rintro y w' (⟨-, h1 | h1, -⟩ | ⟨a, c, ha, hc, h1⟩)
 · cases h1
 · cases h1
 · rw [recS_nil] at ha hc
   injection ha with ha
   injection hc with hc
   subst ha; subst hc
   rcases h1 with ⟨h1, -⟩ | ⟨-, S', b, Q, q, hk, ht, h1⟩
   · exact absurd rfl h1
   · have hb := blank_save h2 hm
     have h3 : y = .returned (.tuple #[.pointer (some ⟨b, 0, none⟩), .nilIface]) := by
       rcases h1 with ⟨-, h1⟩ | ⟨h1, -⟩
       · exact h1
       · exact absurd hb.1 h1
     exact ⟨S', b, Q, q, h3, ⟨hk, ht.low h.low h.below.size, h.below.trans (ht.kept.below h.low h.below.size)⟩, ht⟩
theorem live_again (E : ConE C) (hs : StdP w0) (h : Live C w0 w S p d) {o : Bool} {sv : Nat} {s : St} (hr : KR n d L o sv s) (hn : n ≤ 1048576) (A : Option Addr) (nc cc : Nat) (first : List Int) (hf : Ints w (.slice A nc cc) first) (hm : mayC first = true) (hfS : IntsT w (Av w S) (.slice A nc cc) first) :
   Calls Tryz.prog 12 #[.pointer (some ⟨p, 0, none⟩), .slice A nc cc] w fun y w' => ∃ b Q q, y = .returned (.tuple #[.pointer (some ⟨b, 0, none⟩), .nilIface]) ∧ LK C w0 w' S b Q p d (openKm n L o sv s) q ∧ Turn S (KS S b Q) w w' := by
 obtain ⟨a, c, ha, hc, hch⟩ := chosen_rest hr
 refine (Open_any E w S p d n hr.size.symm h.dk L hr.rest A nc cc first hf hm hfS (by rw [hr.size]; exact hn) (h.hsd hs) (fun o x hx => by have := hr.small o x hx; omega)).mono ?_
 rintro y w' (⟨-, h1 | h1, -⟩ | ⟨a', c', ha', hc', h1⟩)
 · rw [ha] at h1; cases h1
 · rw [hc] at h1; cases h1
 · rw [ha] at ha'
   rw [hc] at hc'
   injection ha' with ha'
   injection hc' with hc'
   subst ha'; subst hc'
   rw [hch] at h1
   have h1s := (recS_may hr.cnt).2.1
   rcases h1 with ⟨-, b, Q, q, hy, hk, ht⟩ | ⟨h1, -⟩
   · exact ⟨b, Q, q, hy, ⟨hk, ht.low h.low h.below.size, h.below.trans (ht.kept.below h.low h.below.size)⟩, ht⟩
   · exact absurd h1 (by show sv ≠ 0; omega)
end
end
section
open Go Go.RowKit
set_option maxRecDepth 100000
theorem lit_ints (w : World) (l : List Int) (hi : ∀ z ∈ l, inI z) (hl : l.length ≤ 1000) : ∃ W g, W = w.alloc (.cells (l.map (Value.int .i64)).toArray 3) ∧ g = w.heap.size ∧ Below w.heap.size w W ∧ Ints W (.slice (some ⟨g, 0, none⟩) l.length l.length) l ∧
   ∀ S : Nat → Prop, (∀ x, S x → x < w.heap.size) → IntsT W (Av W S) (.slice (some ⟨g, 0, none⟩) l.length l.length) l := by
 obtain ⟨W, g, hW, hg, hb, hq, hsz⟩ := one_box w (.cells (l.map (Value.int .i64)).toArray 3)
 have hr : W.ownsRow w.heap.size 3 1 (.slice (some ⟨g, 0, none⟩) l.length l.length) l.length (l.map (Value.int .i64)) := by
   have h := World.ownsRow_lit (base := w.heap.size) (e := 3) (size := 1) w (l.map (Value.int .i64)).toArray l.length (Nat.le_refl _) (by simp only [maxLen]; omega) (by simp)
   rw [← hW] at h
   rw [hg]
   simpa using h
 refine ⟨W, g, hW, hg, hb, Ints.of_own hr hi, fun S hS => RowT.of_own hr _ fun g' hg' => ?_⟩
 have h1 := hr.lt g' hg'
 exact ⟨h1.2, fun e => by have := hS g' e; omega⟩
section
variable {C : ConD} {w0 w w' : World} {S S' : Nat → Prop} {b p n : Nat} {Q : Bool → Nat} {d d' : Dk} {k k' : Km} {q q' : Pl} {L : Bool → List (List UInt8)}
theorem blank_any (B : ConB ConE C) (n : Nat) (w : World) (h1 : 1 ≤ n) (h2 : n ≤ 4194304) :
   Calls Tryz.prog 11 #[.int .i64 (n : Int)] w fun y w' => ∃ p S, y = .returned (.pointer (some ⟨p, 0, none⟩)) ∧ Live C w w' S p (newD n) := by
 have CN := jI (B.cNew n w h1 h2)
 go_enter Tryz.func11, Tryz.ntmps11
 go_wp2_with (go_at_call 34; go_must (refine CN.out.mono ?_; rintro y w1 ⟨p, S, rfl, hd, hl, hb⟩; have H1 := jI (show Live C w w1 S p (newD n) from ⟨hd, hl, hb⟩); clear hd hl hb))
 go_ret
 exact ⟨p, S, rfl, H1.out⟩
theorem fld0 (W : World) (a b c d : Int) (A A' A'' : Option Addr) (m c1 m' c1' m'' c1'' : Nat) : (Instr.field 35 (.agg #[.int .i64 a, .int .i64 b, .int .i64 c, .int .i64 d, .slice A m c1, .slice A' m' c1', .slice A'' m'' c1'']) 0).run Tryz.prog W = .ok (.int .i64 a) W := by kernel_rfl
theorem fld1 (W : World) (a b c d : Int) (A A' A'' : Option Addr) (m c1 m' c1' m'' c1'' : Nat) : (Instr.field 35 (.agg #[.int .i64 a, .int .i64 b, .int .i64 c, .int .i64 d, .slice A m c1, .slice A' m' c1', .slice A'' m'' c1'']) 1).run Tryz.prog W = .ok (.int .i64 b) W := by kernel_rfl
theorem fld3 (W : World) (a b c d : Int) (A A' A'' : Option Addr) (m c1 m' c1' m'' c1'' : Nat) : (Instr.field 35 (.agg #[.int .i64 a, .int .i64 b, .int .i64 c, .int .i64 d, .slice A m c1, .slice A' m' c1', .slice A'' m'' c1'']) 3).run Tryz.prog W = .ok (.slice A' m' c1') W := by kernel_rfl
theorem LK.load (h : LK C w0 w S b Q p d k q) (hm : mayS k.kept = true) (hsn : k.kept.snap.length ≤ 2000000) (s : St) (hk : k.kept = s) :
   Calls Tryz.prog 9 #[.pointer (some ⟨b, 0, none⟩)] w fun e w' => ∃ q' : Pl, e = .returned (.agg #[.int .i64 s.term, .int .i64 s.vote, .int .i64 s.log.base, .int .i64 s.log.term, .slice q'.AL q'.nL q'.cL, .slice q'.AC q'.nC q'.cC, .slice q'.AS q'.nS q'.cS]) ∧
     Ents w' (.slice q'.AL q'.nL q'.cL) s.log.l ∧ Ints w' (.slice q'.AC q'.nC q'.cC) s.conf ∧ Bys w' (.slice q'.AS q'.nS q'.cS) s.snap ∧ Below w.heap.size w w' := by
 subst hk
 refine (Load_any h.kb hm hsn).mono ?_
 rintro e w' ⟨q', rfl, hf, hb⟩
 exact ⟨q', rfl, ⟨hf.ents.move (fun _ _ _ => rfl) fun k hk => hk.2, h.kb.ok.1⟩, ⟨hf.conf.mono fun k hk => hk.2, h.kb.ok.2⟩, hf.snap.mono fun k hk => hk.2, hb⟩
def sureS : St := ⟨4, 2, ⟨0, 0, []⟩, [1], []⟩
theorem sureS_may : mayS sureS = true := by decide
theorem sureS_len : (encS ((2 : Nat) : Int) sureS).length ≤ 80 := by
 have h1 : (encC [1]).length ≤ 32 := encC_len31 (by decide)
 have h2 := lBytes_32 (b := encC [1]) (by omega)
 have h3 := lBytes_32 (b := []) (by simp)
 have h4 := lUint_two 0 (by omega)
 have h5 := lUint_two 2 (by omega)
 have h6 := lUint_two 4 (by omega)
 unfold encS numS
 simp only [sureS, List.length_append, List.length_nil, encEs, List.flatMap_nil]
 rw [show u64 ((2 : Nat) : Int) = 2 from rfl, show u64 (0 : Int) = 0 from rfl, show u64 (4 : Int) = 4 from rfl, show u64 (2 : Int) = 2 from rfl]
 simp only [List.length_nil] at h3
 omega
theorem LK.save_sure (h : LK C w0 w S b Q p d k q) (hs : StdP w0) (hi : KI 2000 d k L) (ha : d.armed < 0) (hsv : k.saves = 1) (hkp : k.kept = firstS [1, 2, 3]) (A : Option Addr) (hT : IntsT w (Av w (KS S b Q)) (.slice A 1 1) [1]) :
   Calls Tryz.prog 7 #[.pointer (some ⟨b, 0, none⟩), .agg #[.int .i64 4, .int .i64 2, .int .i64 0, .int .i64 0, .slice none 0 0, .slice A 1 1, .slice none 0 0]] w fun e w' => e = .returned .nilIface ∧ ∃ S' d' L' o, Live C w0 w' S' p d' ∧ KR 2000 d' L' o 2 sureS := by
 have hin : InS w (Av w (KS S b Q)) sureS (plF A 1 1) := ⟨⟨⟨[], RowT.nil_ _ _ _, fun j h => by simp [sureS] at h⟩, hT, SlT.nil_ _ _⟩,
   (fun e he => (by cases he)), (fun z hz => by rw [List.mem_singleton.1 hz]; unfold inI; decide), ⟨Nat.zero_le _, fun e he => (by cases he)⟩, by decide, Nat.zero_le _, (show inI (0 : Int) from by unfold inI; decide), (show inI (0 : Int) from by unfold inI; decide)⟩
 have hcalm : Calm d k := ⟨(hi.ts false).calm, by rw [hi.size]; decide, fun o => (hi.ts o).alive⟩
 have hlen := sureS_len
 refine (Save_live h.kb hi.alive hcalm (by omega) (h.std hs) sureS (plF A 1 1) hin).mono ?_
 rintro y w' ⟨S', q', rfl, hk, ht⟩
 have hne : sureS ≠ k.kept := by
   rw [hkp]
   intro e
   have := congrArg (fun s : St => s.term) e
   simp [sureS, firstS] at this
 rcases save_out hi sureS_may hne (Nat.zero_le _) (by omega) (by rw [hsv]; show (encS ((2 : Nat) : Int) sureS).length < _; omega) with ⟨h1, ⟨L', h2⟩, h3, h4⟩ | ⟨h1, h2, h3, h4⟩ | ⟨h1, h2, h3, -⟩
 · have hl := h.turn hk ht
   refine ⟨by rw [h1, er_zero], S', _, L', (saveR d k sureS).2.1.on, hl.live, ?_⟩
   have := h2.rests
   rw [h3, h4, hsv] at this
   exact this
 · exfalso
   rw [hsv] at h4
   have h5 : 2000 / 2 < 5 + (encS ((2 : Nat) : Int) sureS).length := h4
   omega
 · omega
set_option maxHeartbeats 16000000 in
theorem sure15 (E : ConE C) (B : ConB ConE C) (w : World) (hs : StdP w) : Calls Tryz.prog 10 #[] w fun e w' => e = .returned (.bool true) ∧ Below w.heap.size w w' := by
 have CB := blank_any B 2000 w (by omega) (by omega)
 rw [show ((2000 : Nat) : Int) = 2000 from rfl] at CB
 have CB := jI CB
 have HS := jI hs
 clear hs
 go_enter Tryz.func10, Tryz.ntmps10
 go_upto_region 2 with (go_at_call 11; go_must (refine CB.out.mono ?_; rintro y w1 ⟨p, S, rfl, hd⟩; have H1 := jI hd; clear hd))
 obtain ⟨W2, g2, hW2, hg2, hb2, hI2, hT2⟩ := lit_ints w1 [1, 2, 3] (by intro z hz; unfold inI; simp only [List.mem_cons, List.not_mem_nil, or_false] at hz; omega) (by decide)
 have CO := live_first E HS.out (H1.out.more hb2) (by omega) (by omega) (some ⟨g2, 0, none⟩) 3 3 [1, 2, 3] hI2 (by decide) (hT2 S (C.foot H1.out.dk))
 have hbk := blank_save (n := 2000) (by omega) (first := [1, 2, 3]) (by decide)
 obtain ⟨r, hr⟩ : ∃ r, r = saveR (newD 2000) (opK 2000 fun _ => []) (firstS [1, 2, 3]) := ⟨_, rfl⟩
 rw [← hr] at CO hbk
 have CO := jI CO
 have HR := jI hbk
 have HW := jI (jA (show W2 = w1.alloc (.cells #[.int .i64 1, .int .i64 2, .int .i64 3] 3) from hW2) hg2)
 clear hbk hr hW2 hg2 hb2 hI2 hT2
 go_upto_region 3 with (go_at_call 12; rw [← HW.out.1, ← HW.out.2]; go_must (refine CO.out.mono ?_; rintro y w3 ⟨S3, b, Q, q3, rfl, hk, ht⟩; have H3 := jI hk; clear hk ht))
 have hmk : mayS r.2.1.kept = true := by rw [HR.out.2.2.2.1]; decide
 have CL := jI (H3.out.load hmk (by rw [HR.out.2.2.2.1]; decide) _ HR.out.2.2.2.1)
 have F0 := fld0
 have F1 := fld1
 have F3 := fld3
 clear hmk
 have CS := jI fun W (hW : Below w3.heap.size w3 W) => Saves_any (H3.out.more hW).kb
 rw [HR.out.2.2.1] at CS
 go_upto_region 5 with (first
   | (go_at_call 9; go_must (refine CL.out.mono ?_; rintro y w4 ⟨q4, rfl, -, hi, -, hb⟩; obtain ⟨hi3, -, -⟩ := hi.at_; have hi3 : q4.nC = 3 := hi3; rw [hi3] at hi ⊢; have H4 := jI (jA hi hb); clear hi hb))
   | (go_at_call 33; obtain ⟨W5, g5, hW5, hg5, hb5, hI5, -⟩ := lit_ints w4 [1, 2, 3] (by intro z hz; unfold inI; simp only [List.mem_cons, List.not_mem_nil, or_false] at hz; omega) (by decide); rw [← show W5 = w4.alloc (.cells #[.int .i64 1, .int .i64 2, .int .i64 3] 3) from hW5, ← hg5]; go_must (refine (ints_any _ _ _ _ _ _ _ _ W5 (H4.out.1.below hb5) hI5 true (by decide)).mono ?_; rintro y w6 ⟨rfl, hb⟩; have H6 := jI (H4.out.2.trans ((hb5.trans (hb.mono hb5.size)).mono H4.out.2.size)); clear hb hW5 hg5 hb5 hI5))
   | (go_at_call 8; go_must (refine (CS.out w6 H6.out).mono ?_; rintro y w7 ⟨rfl, hw⟩; subst hw)))
 obtain ⟨W7, g7, hW7, hg7, hb7, -, hT7⟩ := lit_ints w6 [1] (by intro z hz; unfold inI; rw [List.mem_singleton.1 hz]; decide) (by decide)
 have CSv := jI (((H3.out.more H6.out).more hb7).save_sure HS.out HR.out.2.1 HR.out.2.2.2.2 HR.out.2.2.1 HR.out.2.2.2.1 (some ⟨g7, 0, none⟩) (hT7 _ (H3.out.more H6.out).kb.foot))
 have HW7 := jI (jA (show W7 = w6.alloc (.cells #[.int .i64 1] 3) from hW7) hg7)
 clear hW7 hg7 hb7 hT7
 go_upto_region 6 with (go_at_call 7; rw [← HW7.out.1, ← HW7.out.2]; go_must (refine CSv.out.mono ?_; rintro y w8 ⟨rfl, S8, d8, L8, o8, hl, hr⟩; have H8 := jI (jA hl hr); clear hl hr))
 obtain ⟨W9, g9, hW9, hg9, hb9, hI9, hT9⟩ := lit_ints w8 [7] (by intro z hz; unfold inI; rw [List.mem_singleton.1 hz]; decide) (by decide)
 have CO2 := jI (live_again E HS.out (H8.out.1.more hb9) H8.out.2 (by omega) (some ⟨g9, 0, none⟩) 1 1 [7] hI9 (by decide) (hT9 S8 (C.foot H8.out.1.dk)))
 have HW9 := jI (jA (show W9 = w8.alloc (.cells #[.int .i64 7] 3) from hW9) hg9)
 clear hW9 hg9 hb9 hI9 hT9
 go_upto_region 7 with (go_at_call 12; rw [← HW9.out.1, ← HW9.out.2]; go_must (refine CO2.out.mono ?_; rintro y w10 ⟨b2, Q2, q2, rfl, hk, ht⟩; have H10 := jI hk; clear hk ht))
 have CS2 := jI (Saves_any H10.out.kb)
 have CL2 := jI fun W (hW : Below w10.heap.size w10 W) => (show Calls Tryz.prog 9 #[.pointer (some ⟨b2, 0, none⟩)] W fun e w' => ∃ q' : Pl, e = .returned (.agg #[.int .i64 4, .int .i64 2, .int .i64 0, .int .i64 0, .slice q'.AL q'.nL q'.cL, .slice q'.AC q'.nC q'.cC, .slice q'.AS q'.nS q'.cS]) ∧
     Ents w' (.slice q'.AL q'.nL q'.cL) [] ∧ Ints w' (.slice q'.AC q'.nC q'.cC) [1] ∧ Bys w' (.slice q'.AS q'.nS q'.cS) [] ∧ Below W.heap.size W w' from (H10.out.more hW).load sureS_may (Nat.zero_le _) sureS rfl)
 have HB := jI (Below.refl w10.heap.size w10)
 go_wp2_with (first
   | (go_at_call 8; go_must (refine CS2.out.mono ?_; rintro y w11 ⟨rfl, hw⟩; subst hw))
   | (go_at_call 9; go_must (refine (CL2.out _ HB.out).mono ?_; rintro y w12 ⟨q4, rfl, -, hi, -, hb⟩; obtain ⟨hi3, -, -⟩ := hi.at_; have hi3 : q4.nC = 1 := hi3; rw [hi3] at hi ⊢; have HB := jI (HB.out.trans (hb.mono HB.out.size)); have H12 := jI hi; clear hi hb hi3))
   | (go_at_call 33; obtain ⟨W5, g5, hW5, hg5, hb5, hI5, -⟩ := lit_ints w12 [1] (by intro z hz; unfold inI; rw [List.mem_singleton.1 hz]; decide) (by decide); rw [← show W5 = w12.alloc (.cells #[.int .i64 1] 3) from hW5, ← hg5]; go_must (refine (ints_any _ _ _ _ _ _ _ _ W5 (H12.out.below hb5) hI5 true (by decide)).mono ?_; rintro y w13 ⟨rfl, hb⟩; have H13 := jI (HB.out.trans ((hb5.trans (hb.mono hb5.size)).mono HB.out.size)); clear hb hW5 hg5 hb5 hI5)))
 go_ret
 exact ⟨rfl, H10.out.bel.trans (H13.out.mono H10.out.bel.size)⟩
end
end
end Go.Proofs.YtncaefocijainaaGreatDoor.pk
