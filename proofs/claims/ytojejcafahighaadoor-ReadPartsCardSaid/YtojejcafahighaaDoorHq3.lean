/-
  The program's own queue: part, by a closure; Take, Fail.
-/
import Derived.Test.YtojejcafahighaaDoorHq2
namespace Go.Proofs.YtojejcafahighaaDoor.pk
open Go Go.RowKit
set_option maxRecDepth 100000

theorem pairRes {W : World} {b t : Nat} {v0 v1 u0 u1 : Value} (h : W.heap[b]? = some (.cells #[v0, v1] t (0, 0))) : (put2 W b u0 u1).heap[b]? = some (.cells #[u0, u1] t (0, 0)) := put2_own h u0 u1

set_option maxHeartbeats 16000000 in
theorem partT_any (lim : Int) (l : List It) (A : Option Addr) (n c : Nat) (p1 p2 p3 : Nat) (p : It → Bool) (w : World) (h : Its w (.slice A n c) l) (hl0 : l.length ≤ 1000) (hcl : ∀ (W : World) (x : It), Below w.heap.size w W → Calls Tryd.prog 24 #[.agg #[.int .i64 x.term, .int .i64 x.round, .int .i64 x.index, .int .i64 x.token], .pointer (some ⟨p1, 0, none⟩), .pointer (some ⟨p2, 0, none⟩), .pointer (some ⟨p3, 0, none⟩)] W fun y w' => y = .returned (.bool (p x)) ∧ Below W.heap.size W w') (r : Int × List It × List Int) (hr : r = takeQ lim l p) (m k : Nat) (hm : m = r.2.1.length) (hk : k = r.2.2.length) :
    Calls Tryd.prog 23 #[.agg #[.int .i64 lim, .slice A n c], .func (.func 24) #[] #[.pointer (some ⟨p1, 0, none⟩), .pointer (some ⟨p2, 0, none⟩), .pointer (some ⟨p3, 0, none⟩)]] w fun y w' => ∃ A1 c1 A2 c2, y = .returned (.tuple #[.agg #[.int .i64 r.1, .slice A1 m c1], .slice A2 k c2]) ∧ FIts w w' (.slice A1 m c1) r.2.1 ∧ FInts w w' (.slice A2 k c2) r.2.2 ∧ Below w.heap.size w w' := by
  have eg : ∀ args w, (callFunc 24 args).run Tryd.prog w = .ok (.enter 24 args) w := enters_of Tryd.func24 (by kernel_rfl) rfl
  obtain ⟨W1, g, g2, hW1, hg, hg2, hbw, hq, hq2, hsz1⟩ := two_box w (.cells #[.int .i64 lim, .slice A n c] 31) (.cells #[.int .i64 0, .slice none 0 0] 31)
  have HW := Lib.hid (And.intro hW1 (And.intro hg hg2))
  have HE := Lib.hid (And.intro hbw (And.intro (show w.heap.size ≤ g by omega) (And.intro (show g < g2 by omega) hsz1)))
  obtain ⟨hn, hnc, hcm⟩ := h.len_
  have HI := Lib.hid (And.intro (h.below hbw) (And.intro hn hl0))
  have HCL := Lib.hid (show ∀ W, Below g2 W1 W → W.cell? ⟨g, 0, none⟩ = some (.int .i64 lim) ∧ W.cell? ⟨g, 1, none⟩ = some (.slice A n c) from fun W hW => cells2 ((hW.block g (by omega)).trans hq))
  have HQ2 := Lib.hid (show ∀ W, Below W1.heap.size W1 W → W.heap[g2]? = some (.cells #[.int .i64 0, .slice none 0 0] 31 (0, 0)) from fun W hW => (hW.block g2 (obj_lt hq2)).trans hq2)
  have H21 := Lib.hid (show ∀ W, Below W1.heap.size W1 W → Below g2 W1 W from fun W hW => hW.mono (by omega))
  have hres : Tryd.f23.results = #[.cell 4 31, .tmp 5] := by kernel_rfl
  obtain ⟨x0, x1⟩ := HCL.out W1 (Below.refl _ _)
  have CM := Lib.hid fun b hb => may_any lim l A n c W1 HI.out.1 b hb
  have HCF := Lib.hid (show ∀ (W : World) (x : It) (b : Bool), Below W1.heap.size W1 W → p x = b → Calls Tryd.prog 24 #[.agg #[.int .i64 x.term, .int .i64 x.round, .int .i64 x.index, .int .i64 x.token], .pointer (some ⟨p1, 0, none⟩), .pointer (some ⟨p2, 0, none⟩), .pointer (some ⟨p3, 0, none⟩)] W fun y w' => y = .returned (.bool b) ∧ Below W.heap.size W w' from fun W x b hW hpb => by rw [← hpb]; exact hcl W x (hbw.trans (hW.mono hbw.size)))
  have in1 : (n : Int) ≤ 1000000 := by omega
  rcases takeQ_cases lim l p with ⟨c1, hf⟩ | ⟨c1, hf⟩
  · have CM := Lib.hid (CM.out _ c1.symm)
    obtain rfl := hr.trans hf
    obtain rfl : m = 0 := hm
    obtain rfl : k = 0 := hk
    clear h hl0 hW1 hg hg2 hq2 hsz1 hbw hq hr hf hn hnc hcm c1 hcl
    go_enter Tryd.func23, Tryd.ntmps23
    go_upto_region 1 with fail
    rw [← HW.out.1, ← HW.out.2.1, ← HW.out.2.2]
    go_wp2_with (go_at_call 19; go_must (refine CM.out.mono ?_; rintro y w1 ⟨rfl, hb1⟩; have hq2 := HQ2.out w1 hb1; obtain ⟨z0, z1⟩ := cells2 hq2; have f0 := frozen_own hq2 0; have f1 := frozen_own hq2 1; have HB := Lib.hid (And.intro hb1 hq2); clear hb1 hq2))
    obtain ⟨WF, hWF, u0, u1, hbF, hoth, hsz2⟩ := queRes (b0 := .int .i64 0) (b1 := .slice none 0 0) HB.out.2 (HE.out.1.trans (HB.out.1.mono HE.out.1.size)) (show w.heap.size ≤ g2 by have := HE.out; omega)
    unfold put2 at hWF
    rw [hWF]
    have HBF := Lib.hid hbF
    clear hbF hoth hsz2 hWF x0 x1 z0 z1 f0 f1
    refine bodyPost_ret (v := .tuple #[.agg #[.int .i64 0, .slice none 0 0], .slice none 0 0]) ?_ rfl ⟨none, 0, none, 0, rfl, FIts.nil_ _ _, ⟨RowT.nil_ _ _ _, fun z hz => by cases hz⟩, HBF.out⟩
    simp only [results, hres]
    go_simp
  · have CM := Lib.hid (CM.out _ c1.symm)
    obtain rfl := hr.trans hf
    have HM := Lib.hid (And.intro hm hk)
    clear h hl0 hW1 hg hg2 hq2 hsz1 hbw hq hr hf hn hcm c1 hm hk hnc hcl
    go_enter Tryd.func23, Tryd.ntmps23
    go_upto_region 1 with fail
    rw [← HW.out.1, ← HW.out.2.1, ← HW.out.2.2]
    go_upto_region 4 with (go_at_call 19; go_must (refine CM.out.mono ?_; rintro y w1 ⟨rfl, hb1⟩; obtain ⟨x0, x1⟩ := HCL.out w1 (H21.out w1 hb1); have HB := Lib.hid hb1; clear hb1))
    obtain ⟨W2, gl, hW2, hgl, hb2, hql, hsz2⟩ := one_box w1 (.cells #[.int .i64 lim, .slice none 0 0] 31)
    rw [← hW2, ← hgl]
    obtain ⟨x0, x1⟩ := HCL.out W2 (H21.out W2 (HB.out.trans (hb2.mono HB.out.size)))
    have HB2 := Lib.hid (And.intro (HB.out.trans (hb2.mono HB.out.size)) (And.intro hql (And.intro hsz2 (show W1.heap.size ≤ gl by rw [hgl]; exact HB.out.size))))
    clear hW2 hgl hb2 hql hsz2
    go_wp2_with fail
    clear x0 x1
    go_loopw [7, 20] (fun ov ii wr => ∃ (j : Nat) (A4 : Option Addr) (c4 : Nat) (q : Nat), j ≤ n ∧ ii = .int .i64 (j : Int) ∧ Hid (wr.ownsRow (gl + 1) 3 1 ov (outT p (l.take j)).length ((outT p (l.take j)).map (Value.int .i64)) ∧ OwnI wr (gl + 1) 37 (.slice A4 q c4) (leftT p (l.take j)) ∧ wr.heap[gl]? = some (.cells #[.int .i64 lim, .slice A4 q c4] 31 (0, 0)) ∧ (∀ k, ov.ownBlock = some k → (Value.slice A4 q c4).ownBlock ≠ some k) ∧ Below gl W2 wr)) (fun _ ii _ => n - (intOf ii).toNat)
    case atStart => exact ⟨0, none, 0, 0, Nat.zero_le _, rfl, Lib.hid ⟨World.ownsRow_nil _ _ _ _, OwnI.nil_ _ _ _, HB2.out.2.1, fun k hk => by (cases hk), Below.refl _ _⟩⟩
    case round =>
      obtain ⟨j, A4, c4, q, hj, rfl, HR⟩ := hrel
      obtain ⟨Ao, co, rfl, -, -⟩ := (RowT.of_own HR.out.1 (fun _ => True) fun _ _ => trivial).form
      obtain ⟨no, hno⟩ : ∃ no, no = (outT p (l.take j)).length := ⟨_, rfl⟩
      have HNO := Lib.hid hno
      rw [← hno] at HR ⊢
      clear hno
      have hb1r : Below W1.heap.size W1 wr := HB2.out.1.trans (HR.out.2.2.2.2.mono HB2.out.2.2.2)
      have HBR := Lib.hid hb1r
      have hgw : gl + 1 ≤ wr.heap.size := by have := HR.out.2.2.2.2.size; have := HB2.out.2.2.1; omega
      by_cases hlt : j < n
      · have ii : (j : Int) < (n : Int) := by omega
        have hjl : j < l.length := by have := HI.out.2; omega
        obtain ⟨bk, off, rfl, hbb, q0, q1, q2, q3⟩ := (HI.out.1.below hb1r).1.at_ j hjl
        obtain ⟨x, hx⟩ : ∃ x, x = l[j] := ⟨_, rfl⟩
        have o1 := outT_hit (p := p) hjl
        have o2 := leftT_hit (p := p) hjl
        have o3 := outT_no (p := p) hjl
        have o4 := leftT_no (p := p) hjl
        rw [← hx] at q0 q1 q2 q3 o1 o2 o3 o4
        have HO := Lib.hid (And.intro o1 (And.intro o2 (And.intro o3 (And.intro o4 hgw))))
        have hlen1 := Nat.le_trans (outT_len p (l.take j)) (show (l.take j).length ≤ 1000000 by rw [List.length_take]; have := HI.out.2; omega)
        have hlen2 := Nat.le_trans (leftT_len p (l.take j)) (show (l.take j).length ≤ 1000000 by rw [List.length_take]; have := HI.out.2; omega)
        have HL := Lib.hid (And.intro hlen1 hlen2)
        clear o1 o2 o3 o4 hbb hx hjl hb1r hgw hlen1 hlen2
        go_upto_region 8 with fail
        obtain ⟨W3, b3, hW3, hb3, hbb3, hq3, hsz3⟩ := one_box wr (.cells #[.int .i64 x.term, .int .i64 x.round, .int .i64 x.index, .int .i64 x.token] 37)
        rw [← hW3, ← hb3]
        obtain ⟨v0, v1, v2, v3⟩ := cells4 hq3
        have H3 := Lib.hid (And.intro hbb3 (And.intro hsz3 (And.intro hb3 hq3)))
        clear hW3 hb3 hbb3 hq3 hsz3 q0 q1 q2 q3
        cases hp : p x with
        | true =>
          have HP := Lib.hid hp
          have CF := Lib.hid (HCF.out W3 x true (HBR.out.trans (H3.out.1.mono HBR.out.size)) hp)
          clear hp
          go_upto_region 9 with (go_at_fn 24; refine CF.out.mono ?_; rintro y w4 ⟨rfl, hb4⟩; have hq4 := (hb4.block b3 (obj_lt H3.out.2.2.2)).trans H3.out.2.2.2; obtain ⟨v0, v1, v2, v3⟩ := cells4 hq4; have H4 := Lib.hid (H3.out.1.trans (hb4.mono H3.out.1.size)); clear hb4 hq4)
          go_wp2_with (at_builtin; go_must (refine wpList_pushI2 (B := gl + 1) (zs := outT p (l.take j)) (own_kept (own_kept (by rw [← HNO.out]; exact HR.out.1) H4.out) (below_alloc w4 _)) rfl _ _ rfl rfl w4.heap.size rfl x.token (heap_alloc_new w4 _) ?c2 ?c3 ?c4))
          case c2 => have := HL.out.1; omega
          case c3 => have := HO.out.2.2.2.2; have := H4.out.size; first | omega | (rw [World.size_alloc]; omega)
          case c4 =>
            intro v5 w5 ho5 hg5 how5
            have hz4 : (w4.alloc (.cells #[.int .i64 x.token] 3)).heap.size = w4.heap.size + 1 := World.size_alloc _ _
            have hz3 := H4.out.size
            have hkeep : ∀ k, k < wr.heap.size → (Value.slice Ao no co).ownBlock ≠ some k → w5.heap[k]? = wr.heap[k]? := fun k hk hne => by
              rw [hg5.block k (by omega) (fun e => hne e.symm), heap_alloc_old _ _ (by omega)]
              exact H4.out.block k hk
            have hltO : ∀ k, (Value.slice Ao no co).ownBlock = some k → gl + 1 ≤ k ∧ k < wr.heap.size := fun k hk => HR.out.1.lt k hk
            have hltL : ∀ k, (Value.slice A4 q c4).ownBlock = some k → gl + 1 ≤ k ∧ k < wr.heap.size := fun k hk => HR.out.2.1.lt k hk
            have hgs : gl + 1 ≤ wr.heap.size := HO.out.2.2.2.2
            have hb5 : Below gl W2 w5 := ((HR.out.2.2.2.2.trans (H4.out.mono (by omega))).alloc (by omega) _).grown hg5 (by omega) fun k hk => by have := (hltO k hk).1; omega
            have e1 := HO.out.1 HP.out
            have e2 := HO.out.2.1 HP.out
            have hrel2 : Hid (w5.ownsRow (gl + 1) 3 1 v5 (outT p (l.take (j + 1))).length ((outT p (l.take (j + 1))).map (Value.int .i64)) ∧ OwnI w5 (gl + 1) 37 (.slice A4 q c4) (leftT p (l.take (j + 1))) ∧ w5.heap[gl]? = some (.cells #[.int .i64 lim, .slice A4 q c4] 31 (0, 0)) ∧ (∀ k, v5.ownBlock = some k → (Value.slice A4 q c4).ownBlock ≠ some k) ∧ Below gl W2 w5) := Lib.hid (by
              rw [e1, e2]
              refine ⟨by rw [List.length_append, List.map_append] at *; exact ho5, HR.out.2.1.kept fun k hk => hkeep k (hltL k hk).2 fun e => HR.out.2.2.2.1 k e hk, (hkeep gl (by omega) fun e => by have := (hltO gl e).1; omega).trans HR.out.2.2.1, fun k hk hk2 => ?_, hb5⟩
              rcases how5 with h5 | h5
              · rw [h5] at hk; exact HR.out.2.2.2.1 k hk hk2
              · rw [h5] at hk
                injection hk with hk
                have := (hltL k hk2).2
                omega)
            clear hz4 hz3 hkeep hltO hltL hgs hb5 e1 e2 ho5 hg5 how5
            go_wp2_with fail
            go_roundw
            case rel => exact ⟨j + 1, A4, c4, q, by omega, by go_num, hrel2⟩
            case measure => simp [intOf]; omega
        | false =>
          have HP := Lib.hid hp
          have CF := Lib.hid (HCF.out W3 x false (HBR.out.trans (H3.out.1.mono HBR.out.size)) hp)
          clear hp
          go_upto_region 10 with (go_at_fn 24; refine CF.out.mono ?_; rintro y w4 ⟨rfl, hb4⟩; have hq4 := (hb4.block b3 (obj_lt H3.out.2.2.2)).trans H3.out.2.2.2; obtain ⟨v0, v1, v2, v3⟩ := cells4 hq4; have hb4' := H3.out.1.trans (hb4.mono H3.out.1.size); obtain ⟨z0, z1⟩ := cells2 ((hb4'.block gl (by have := HO.out.2.2.2.2; omega)).trans HR.out.2.2.1); have H4 := Lib.hid hb4'; clear hb4 hq4 hb4')
          go_wp2_with (at_builtin; go_must (refine wpList_pushIt (B := gl + 1) (t := 37) (l := leftT p (l.take j)) ((HR.out.2.1.more H4.out).more (below_alloc w4 _)) rfl _ _ 29 Tryd.underlying29 info_it rfl rfl w4.heap.size x rfl (heap_alloc_new w4 _) ?c2 ?c3 ?c4))
          case c2 => have := HL.out.2; omega
          case c3 => have := HO.out.2.2.2.2; have := H4.out.size; first | omega | (rw [World.size_alloc]; omega)
          case c4 =>
            intro v5 w5 ho5 hg5 how5
            obtain ⟨q5, hq5⟩ : ∃ q5, q5 = (leftT p (l.take j) ++ [x]).length := ⟨_, rfl⟩
            obtain ⟨A5, c5, rfl, -, -⟩ := ho5.form hq5.symm
            have hz3 := H4.out.size
            have hgs : gl + 1 ≤ wr.heap.size := HO.out.2.2.2.2
            have hltO : ∀ k, (Value.slice Ao no co).ownBlock = some k → gl + 1 ≤ k ∧ k < wr.heap.size := fun k hk => HR.out.1.lt k hk
            have hltL : ∀ k, (Value.slice A4 q c4).ownBlock = some k → gl + 1 ≤ k ∧ k < wr.heap.size := fun k hk => HR.out.2.1.lt k hk
            have hz4 : ∀ o, (w4.alloc o).heap.size = w4.heap.size + 1 := fun o => World.size_alloc _ _
            have hkeep : ∀ k, k < wr.heap.size → (Value.slice A4 q c4).ownBlock ≠ some k → w5.heap[k]? = wr.heap[k]? := fun k hk hne => by
              rw [hg5.block k (by rw [hz4]; omega) (fun e => hne e.symm), heap_alloc_old _ _ (by omega)]
              exact H4.out.block k hk
            have hgl5 := (hkeep gl (by omega) fun e => by have := (hltL gl e).1; omega).trans HR.out.2.2.1
            have hb5 : Below gl W2 w5 := ((HR.out.2.2.2.2.trans (H4.out.mono (by omega))).alloc (by omega) _).grown hg5 (by rw [hz4]; omega) fun k hk => by have := (hltL k hk).1; omega
            have e1 := HO.out.2.2.1 HP.out
            have e2 := HO.out.2.2.2.1 HP.out
            have hoth : ∀ k, k ≠ gl → (w5.setCell ⟨gl, 1, none⟩ (.slice A5 q5 c5)).heap[k]? = w5.heap[k]? := fun k hk => Below.heap_setCell _ _ _ _ hk
            have hrel2 : Hid ((w5.setCell ⟨gl, 1, none⟩ (.slice A5 q5 c5)).ownsRow (gl + 1) 3 1 (.slice Ao no co) (outT p (l.take (j + 1))).length ((outT p (l.take (j + 1))).map (Value.int .i64)) ∧ OwnI (w5.setCell ⟨gl, 1, none⟩ (.slice A5 q5 c5)) (gl + 1) 37 (.slice A5 q5 c5) (leftT p (l.take (j + 1))) ∧ (w5.setCell ⟨gl, 1, none⟩ (.slice A5 q5 c5)).heap[gl]? = some (.cells #[.int .i64 lim, .slice A5 q5 c5] 31 (0, 0)) ∧ (∀ k, (Value.slice Ao no co).ownBlock = some k → (Value.slice A5 q5 c5).ownBlock ≠ some k) ∧ Below gl W2 (w5.setCell ⟨gl, 1, none⟩ (.slice A5 q5 c5))) := Lib.hid (by
              rw [e1, e2, ← HNO.out]
              refine ⟨own_kept2 HR.out.1 fun k hk => ?_, ho5.kept fun k hk => hoth k (by have := (ho5.lt k hk).1; omega), set1_own hgl5, fun k hk hk2 => ?_, hb5.setCell (Nat.le_refl gl) _⟩
              · rw [hoth k (by have := (hltO k hk).1; omega)]
                exact hkeep k (hltO k hk).2 (HR.out.2.2.2.1 k hk)
              · rcases how5 with h5 | h5
                · rw [h5] at hk2; exact HR.out.2.2.2.1 k hk hk2
                · rw [h5] at hk2
                  try rw [hz4] at hk2
                  injection hk2 with hk2
                  have := (hltO k hk).2
                  omega)
            obtain ⟨y0, y1⟩ := cells2 hgl5
            have f1 := frozen_own hgl5 1
            clear hz3 hkeep hltO hltL hgs hb5 e1 e2 ho5 hg5 how5 hgl5 hoth hq5 hz4
            go_wp2_with fail
            go_roundw
            case rel => exact ⟨j + 1, A5, c5, q5, by omega, by go_num, hrel2⟩
            case measure => simp [intOf]; omega
      · obtain rfl : j = n := by omega
        have ii : ¬ (j : Int) < (j : Int) := by omega
        have htk : l.take j = l := List.take_of_length_le (by have := HI.out.2; omega)
        rw [htk] at HR HNO
        have hl4 := HR.out.2.1.its (fun k => gl + 1 ≤ k ∧ k < wr.heap.size) fun k hk => HR.out.2.1.lt k hk
        have hq4 := hl4.len_.1
        have HL4 := Lib.hid (And.intro hl4 (And.intro hq4 hgw))
        obtain ⟨z0, z1⟩ := cells2 HR.out.2.2.1
        have hS := HQ2.out wr hb1r
        obtain ⟨y0, y1⟩ := cells2 hS
        have f0 := frozen_own hS 0
        have f1 := frozen_own hS 1
        have HSS := Lib.hid hS
        clear htk hl4 hq4 hS hb1r hgw
        go_wp2_with fail
        obtain ⟨WF, hWF, u0, u1, hbF, hoth, hsz2⟩ := queRes (b0 := .int .i64 lim) (b1 := .slice A4 q c4) HSS.out (HE.out.1.trans (HBR.out.mono HE.out.1.size)) (show w.heap.size ≤ g2 by have := HE.out; omega)
        unfold put2 at hWF
        rw [hWF]
        have HF := Lib.hid (And.intro hbF (And.intro hoth hsz2))
        clear hbF hoth hsz2 hWF z0 z1 y0 y1 f0 f1
        obtain rfl : q = m := by rw [HL4.out.2.1]; exact HM.out.1.symm
        obtain rfl : no = k := by rw [HNO.out]; exact HM.out.2.symm
        have hgg : g2 < gl := by have := HB2.out.2.2.2; have := HE.out; omega
        have hgg2 : w.heap.size ≤ gl := by have := HE.out; omega
        refine bodyPost_ret (v := .tuple #[.agg #[.int .i64 lim, .slice A4 q c4], .slice Ao no co]) ?_ rfl ⟨A4, c4, Ao, co, rfl, ⟨HL4.out.1.move (fun k hk _ => HF.out.2.1 k (by have := hk.1; omega)) fun k hk => ⟨by have := hk.1; omega, by rw [HF.out.2.2]; exact hk.2⟩, fun x hx => HI.out.1.2 x ((List.mem_filter.1 hx).1)⟩, ⟨?_, fun z hz => ?_⟩, HF.out.1⟩
        · simp only [results, hres]
          go_simp
        · have h1 : RowT wr (fun k => gl + 1 ≤ k ∧ k < wr.heap.size) 1 (.slice Ao no co) (outT p l).length ((outT p l).map (Value.int .i64)) := RowT.of_own (by rw [← HNO.out]; exact HR.out.1) _ fun k hk => HR.out.1.lt k hk
          exact (h1.kept fun k hk _ => HF.out.2.1 k (by have := hk.1; omega)).mono fun k hk => ⟨by have := hk.1; omega, by rw [HF.out.2.2]; exact hk.2⟩
        · obtain ⟨x, hx, rfl⟩ := List.mem_map.1 hz
          exact (HI.out.1.2 x ((List.mem_filter.1 hx).1)).2.2.2

set_option maxHeartbeats 4000000 in
theorem hitT_any (x : It) (term heard applied : Int) (b1 b2 b3 : Nat) (w : World) (c1 : w.heap[b1]? = some (.cells #[.int .i64 term] 3 (0, 0))) (c2 : w.heap[b2]? = some (.cells #[.int .i64 heard] 3 (0, 0))) (c3 : w.heap[b3]? = some (.cells #[.int .i64 applied] 3 (0, 0))) :
    Calls Tryd.prog 24 #[.agg #[.int .i64 x.term, .int .i64 x.round, .int .i64 x.index, .int .i64 x.token], .pointer (some ⟨b1, 0, none⟩), .pointer (some ⟨b2, 0, none⟩), .pointer (some ⟨b3, 0, none⟩)] w fun y w' => y = .returned (.bool (hitQ term heard applied false x)) ∧ Below w.heap.size w w' := by
  obtain ⟨W1, g, hW1, hg, hb1, hq, hsz⟩ := one_box w (.cells #[.int .i64 x.term, .int .i64 x.round, .int .i64 x.index, .int .i64 x.token] 37)
  have HW := Lib.hid (And.intro hW1 hg)
  have HE := Lib.hid hb1
  obtain ⟨x0, x1, x2, x3⟩ := cells4 hq
  have mv : ∀ (b : Nat) (v : Value), w.heap[b]? = some (.cells #[v] 3 (0, 0)) → W1.cell? ⟨b, 0, none⟩ = some v := fun b v hb => by rw [cell_of_row W1 b 0 _ _ (0, 0) ((hb1.block b (obj_lt hb)).trans hb)]; rfl
  have c1 := mv _ _ c1
  have c2 := mv _ _ c2
  have c3 := mv _ _ c3
  clear hW1 hg hb1 hq hsz mv
  obtain ⟨b, hb⟩ : ∃ b, b = hitQ term heard applied false x := ⟨_, rfl⟩
  rw [← hb]
  have hcases : (¬ x.term = term ∧ b = false) ∨ (x.term = term ∧ ¬ x.round ≤ heard ∧ b = false) ∨ (x.term = term ∧ x.round ≤ heard ∧ ¬ x.index ≤ applied ∧ b = false) ∨ (x.term = term ∧ x.round ≤ heard ∧ x.index ≤ applied ∧ b = true) := by
    rw [hb]
    rcases hit_cases term heard applied false x with ⟨h, _⟩ | ⟨_, h1, h2, h3, h⟩ | ⟨h, _⟩ | ⟨_, h1, h⟩ | ⟨_, h1, h2, h⟩ | ⟨_, h1, h2, h3, h⟩
    · cases h
    · exact Or.inr (Or.inr (Or.inr ⟨h1, h2, h3, h⟩))
    · cases h
    · exact Or.inl ⟨h1, h⟩
    · exact Or.inr (Or.inl ⟨h1, h2, h⟩)
    · exact Or.inr (Or.inr (Or.inl ⟨h1, h2, h3, h⟩))
  obtain ⟨tx, htx⟩ : ∃ tx, tx = x.term := ⟨_, rfl⟩
  rw [← htx] at hcases x0 ⊢
  have HW2 : Hid (W1 = w.alloc (.cells #[.int .i64 tx, .int .i64 x.round, .int .i64 x.index, .int .i64 x.token] 37) ∧ g = w.heap.size) := Lib.hid (by rw [htx]; exact HW.out)
  clear hb htx HW
  rcases hcases with ⟨h1, rfl⟩ | ⟨rfl, h2, rfl⟩ | ⟨rfl, h2, h3, rfl⟩ | ⟨rfl, h2, h3, rfl⟩
  all_goals
    go_enter Tryd.func24, Tryd.ntmps24
    go_upto_region 1 with fail
    rw [← HW2.out.1, ← HW2.out.2]
    go_wp2_with fail
    go_ret
    exact ⟨rfl, HE.out⟩

theorem five_box (w : World) (a b c d e : Obj) : ∃ W g, W = ((((w.alloc a).alloc b).alloc c).alloc d).alloc e ∧ g = w.heap.size ∧ Below w.heap.size w W ∧ W.heap[g]? = some a ∧ W.heap[g + 1]? = some b ∧ W.heap[g + 1 + 1]? = some c ∧ W.heap[g + 1 + 1 + 1]? = some d ∧ W.heap[g + 1 + 1 + 1 + 1]? = some e ∧ W.heap.size = g + 5 := by
  obtain ⟨W0, g0, g1, g2, hW0, h0, h1, h2, hb0, hq0, hq1, hq2, hs0⟩ := three_box w a b c
  obtain ⟨W1, g3, g4, hW1, h3, h4, hb1, hq3, hq4, hs1⟩ := two_box W0 d e
  subst h0; subst h1; subst h2
  have e3 : g3 = w.heap.size + 3 := by omega
  have e4 : g4 = w.heap.size + 4 := by omega
  subst e3; subst e4
  refine ⟨W1, w.heap.size, by rw [hW1, hW0], rfl, hb0.trans (hb1.mono hb0.size), (hb1.block _ (obj_lt hq0)).trans hq0, (hb1.block _ (obj_lt hq1)).trans hq1, (hb1.block _ (obj_lt hq2)).trans hq2, hq3, hq4, by omega⟩

set_option maxHeartbeats 8000000 in
theorem Take_any (lim : Int) (l : List It) (A : Option Addr) (n c : Nat) (term heard applied : Int) (w : World) (h : Its w (.slice A n c) l) (hl0 : l.length ≤ 1000) (r : Int × List It × List Int) (hr : r = takeQ lim l (hitQ term heard applied false)) (m k : Nat) (hm : m = r.2.1.length) (hk : k = r.2.2.length) :
    Calls Tryd.prog 9 #[.agg #[.int .i64 lim, .slice A n c], .int .i64 term, .int .i64 heard, .int .i64 applied] w fun y w' => ∃ A1 c1 A2 c2, y = .returned (.tuple #[.agg #[.int .i64 r.1, .slice A1 m c1], .slice A2 k c2]) ∧ FIts w w' (.slice A1 m c1) r.2.1 ∧ FInts w w' (.slice A2 k c2) r.2.2 ∧ Below w.heap.size w w' := by
  obtain ⟨W1, g, hW1, hg, hbw, hq, hqt, hqh, hqa, hq2, hsz1⟩ := five_box w (.cells #[.int .i64 lim, .slice A n c] 31) (.cells #[.int .i64 term] 3) (.cells #[.int .i64 heard] 3) (.cells #[.int .i64 applied] 3) (.cells #[.int .i64 0, .slice none 0 0] 31)
  have HW := Lib.hid (And.intro hW1 hg)
  have HE := Lib.hid (And.intro hbw (And.intro hq2 (And.intro hg hsz1)))
  obtain ⟨x0, x1⟩ := cells2 hq
  have hcl : ∀ (W : World) (x : It), Below W1.heap.size W1 W → Calls Tryd.prog 24 #[.agg #[.int .i64 x.term, .int .i64 x.round, .int .i64 x.index, .int .i64 x.token], .pointer (some ⟨g + 1, 0, none⟩), .pointer (some ⟨g + 1 + 1, 0, none⟩), .pointer (some ⟨g + 1 + 1 + 1, 0, none⟩)] W fun y w' => y = .returned (.bool (hitQ term heard applied false x)) ∧ Below W.heap.size W w' := fun W x hW =>
    hitT_any x term heard applied _ _ _ W ((hW.block _ (obj_lt hqt)).trans hqt) ((hW.block _ (obj_lt hqh)).trans hqh) ((hW.block _ (obj_lt hqa)).trans hqa)
  have CP := Lib.hid (partT_any lim l A n c (g + 1) (g + 1 + 1) (g + 1 + 1 + 1) (hitQ term heard applied false) W1 (h.below hbw) hl0 hcl r hr m k hm hk)
  have hres : Tryd.f9.results = #[.cell 8 31, .tmp 9] := by kernel_rfl
  clear h hl0 hW1 hg hbw hq hqt hqh hqa hq2 hsz1 hr hm hk hcl
  go_enter Tryd.func9, Tryd.ntmps9
  go_upto_region 1 with fail
  rw [← HW.out.1, ← HW.out.2]
  go_wp2_with (go_at_call 23; go_must (refine CP.out.mono ?_; rintro y w1 ⟨A1, c1, A2, c2, rfl, hi1, hi2, hb1⟩; have hq2 := (hb1.block _ (obj_lt HE.out.2.1)).trans HE.out.2.1; obtain ⟨z0, z1⟩ := cells2 hq2; have f0 := frozen_own hq2 0; have f1 := frozen_own hq2 1; have HB := Lib.hid (And.intro hb1 (And.intro hq2 (And.intro hi1 hi2))); clear hb1 hq2 hi1 hi2))
  obtain ⟨WF, hWF, u0, u1, hbF, hoth, hsz2⟩ := queRes (b0 := .int .i64 r.1) (b1 := .slice A1 m c1) HB.out.2.1 (HE.out.1.trans (HB.out.1.mono HE.out.1.size)) (show w.heap.size ≤ g + 1 + 1 + 1 + 1 by have := HE.out.2.2.1; omega)
  unfold put2 at hWF
  rw [hWF]
  have HF := Lib.hid (And.intro hbF (And.intro hoth hsz2))
  clear hbF hoth hsz2 hWF x0 x1 z0 z1 f0 f1
  refine bodyPost_ret (v := .tuple #[.agg #[.int .i64 r.1, .slice A1 m c1], .slice A2 k c2]) ?_ rfl ⟨A1, c1, A2, c2, rfl, ⟨HB.out.2.2.1.1.move (fun k hk _ => HF.out.2.1 k (by have := hk.1; have := HE.out.2.2.2; omega)) fun k hk => ⟨by have := HE.out.1.size; have := hk.1; omega, by rw [HF.out.2.2]; exact hk.2⟩, HB.out.2.2.1.2⟩, ⟨(RowT.kept HB.out.2.2.2.1 fun k hk _ => HF.out.2.1 k (by have := hk.1; have := HE.out.2.2.2; omega)).mono fun k hk => ⟨by have := HE.out.1.size; have := hk.1; omega, by rw [HF.out.2.2]; exact hk.2⟩, HB.out.2.2.2.2⟩, HF.out.1⟩
  simp only [results, hres]
  go_simp

set_option maxHeartbeats 16000000 in
theorem partF_any (lim : Int) (l : List It) (A : Option Addr) (n c : Nat) (p1 : Nat) (p : It → Bool) (w : World) (h : Its w (.slice A n c) l) (hl0 : l.length ≤ 1000) (hcl : ∀ (W : World) (x : It), Below w.heap.size w W → Calls Tryd.prog 25 #[.agg #[.int .i64 x.term, .int .i64 x.round, .int .i64 x.index, .int .i64 x.token], .pointer (some ⟨p1, 0, none⟩)] W fun y w' => y = .returned (.bool (p x)) ∧ Below W.heap.size W w') (r : Int × List It × List Int) (hr : r = takeQ lim l p) (m k : Nat) (hm : m = r.2.1.length) (hk : k = r.2.2.length) :
    Calls Tryd.prog 23 #[.agg #[.int .i64 lim, .slice A n c], .func (.func 25) #[] #[.pointer (some ⟨p1, 0, none⟩)]] w fun y w' => ∃ A1 c1 A2 c2, y = .returned (.tuple #[.agg #[.int .i64 r.1, .slice A1 m c1], .slice A2 k c2]) ∧ FIts w w' (.slice A1 m c1) r.2.1 ∧ FInts w w' (.slice A2 k c2) r.2.2 ∧ Below w.heap.size w w' := by
  have eg : ∀ args w, (callFunc 25 args).run Tryd.prog w = .ok (.enter 25 args) w := enters_of Tryd.func25 (by kernel_rfl) rfl
  obtain ⟨W1, g, g2, hW1, hg, hg2, hbw, hq, hq2, hsz1⟩ := two_box w (.cells #[.int .i64 lim, .slice A n c] 31) (.cells #[.int .i64 0, .slice none 0 0] 31)
  have HW := Lib.hid (And.intro hW1 (And.intro hg hg2))
  have HE := Lib.hid (And.intro hbw (And.intro (show w.heap.size ≤ g by omega) (And.intro (show g < g2 by omega) hsz1)))
  obtain ⟨hn, hnc, hcm⟩ := h.len_
  have HI := Lib.hid (And.intro (h.below hbw) (And.intro hn hl0))
  have HCL := Lib.hid (show ∀ W, Below g2 W1 W → W.cell? ⟨g, 0, none⟩ = some (.int .i64 lim) ∧ W.cell? ⟨g, 1, none⟩ = some (.slice A n c) from fun W hW => cells2 ((hW.block g (by omega)).trans hq))
  have HQ2 := Lib.hid (show ∀ W, Below W1.heap.size W1 W → W.heap[g2]? = some (.cells #[.int .i64 0, .slice none 0 0] 31 (0, 0)) from fun W hW => (hW.block g2 (obj_lt hq2)).trans hq2)
  have H21 := Lib.hid (show ∀ W, Below W1.heap.size W1 W → Below g2 W1 W from fun W hW => hW.mono (by omega))
  have hres : Tryd.f23.results = #[.cell 4 31, .tmp 5] := by kernel_rfl
  obtain ⟨x0, x1⟩ := HCL.out W1 (Below.refl _ _)
  have CM := Lib.hid fun b hb => may_any lim l A n c W1 HI.out.1 b hb
  have HCF := Lib.hid (show ∀ (W : World) (x : It) (b : Bool), Below W1.heap.size W1 W → p x = b → Calls Tryd.prog 25 #[.agg #[.int .i64 x.term, .int .i64 x.round, .int .i64 x.index, .int .i64 x.token], .pointer (some ⟨p1, 0, none⟩)] W fun y w' => y = .returned (.bool b) ∧ Below W.heap.size W w' from fun W x b hW hpb => by rw [← hpb]; exact hcl W x (hbw.trans (hW.mono hbw.size)))
  have in1 : (n : Int) ≤ 1000000 := by omega
  rcases takeQ_cases lim l p with ⟨c1, hf⟩ | ⟨c1, hf⟩
  · have CM := Lib.hid (CM.out _ c1.symm)
    obtain rfl := hr.trans hf
    obtain rfl : m = 0 := hm
    obtain rfl : k = 0 := hk
    clear h hl0 hW1 hg hg2 hq2 hsz1 hbw hq hr hf hn hnc hcm c1 hcl
    go_enter Tryd.func23, Tryd.ntmps23
    go_upto_region 1 with fail
    rw [← HW.out.1, ← HW.out.2.1, ← HW.out.2.2]
    go_wp2_with (go_at_call 19; go_must (refine CM.out.mono ?_; rintro y w1 ⟨rfl, hb1⟩; have hq2 := HQ2.out w1 hb1; obtain ⟨z0, z1⟩ := cells2 hq2; have f0 := frozen_own hq2 0; have f1 := frozen_own hq2 1; have HB := Lib.hid (And.intro hb1 hq2); clear hb1 hq2))
    obtain ⟨WF, hWF, u0, u1, hbF, hoth, hsz2⟩ := queRes (b0 := .int .i64 0) (b1 := .slice none 0 0) HB.out.2 (HE.out.1.trans (HB.out.1.mono HE.out.1.size)) (show w.heap.size ≤ g2 by have := HE.out; omega)
    unfold put2 at hWF
    rw [hWF]
    have HBF := Lib.hid hbF
    clear hbF hoth hsz2 hWF x0 x1 z0 z1 f0 f1
    refine bodyPost_ret (v := .tuple #[.agg #[.int .i64 0, .slice none 0 0], .slice none 0 0]) ?_ rfl ⟨none, 0, none, 0, rfl, FIts.nil_ _ _, ⟨RowT.nil_ _ _ _, fun z hz => by cases hz⟩, HBF.out⟩
    simp only [results, hres]
    go_simp
  · have CM := Lib.hid (CM.out _ c1.symm)
    obtain rfl := hr.trans hf
    have HM := Lib.hid (And.intro hm hk)
    clear h hl0 hW1 hg hg2 hq2 hsz1 hbw hq hr hf hn hcm c1 hm hk hnc hcl
    go_enter Tryd.func23, Tryd.ntmps23
    go_upto_region 1 with fail
    rw [← HW.out.1, ← HW.out.2.1, ← HW.out.2.2]
    go_upto_region 4 with (go_at_call 19; go_must (refine CM.out.mono ?_; rintro y w1 ⟨rfl, hb1⟩; obtain ⟨x0, x1⟩ := HCL.out w1 (H21.out w1 hb1); have HB := Lib.hid hb1; clear hb1))
    obtain ⟨W2, gl, hW2, hgl, hb2, hql, hsz2⟩ := one_box w1 (.cells #[.int .i64 lim, .slice none 0 0] 31)
    rw [← hW2, ← hgl]
    obtain ⟨x0, x1⟩ := HCL.out W2 (H21.out W2 (HB.out.trans (hb2.mono HB.out.size)))
    have HB2 := Lib.hid (And.intro (HB.out.trans (hb2.mono HB.out.size)) (And.intro hql (And.intro hsz2 (show W1.heap.size ≤ gl by rw [hgl]; exact HB.out.size))))
    clear hW2 hgl hb2 hql hsz2
    go_wp2_with fail
    clear x0 x1
    go_loopw [7, 20] (fun ov ii wr => ∃ (j : Nat) (A4 : Option Addr) (c4 : Nat) (q : Nat), j ≤ n ∧ ii = .int .i64 (j : Int) ∧ Hid (wr.ownsRow (gl + 1) 3 1 ov (outT p (l.take j)).length ((outT p (l.take j)).map (Value.int .i64)) ∧ OwnI wr (gl + 1) 37 (.slice A4 q c4) (leftT p (l.take j)) ∧ wr.heap[gl]? = some (.cells #[.int .i64 lim, .slice A4 q c4] 31 (0, 0)) ∧ (∀ k, ov.ownBlock = some k → (Value.slice A4 q c4).ownBlock ≠ some k) ∧ Below gl W2 wr)) (fun _ ii _ => n - (intOf ii).toNat)
    case atStart => exact ⟨0, none, 0, 0, Nat.zero_le _, rfl, Lib.hid ⟨World.ownsRow_nil _ _ _ _, OwnI.nil_ _ _ _, HB2.out.2.1, fun k hk => by (cases hk), Below.refl _ _⟩⟩
    case round =>
      obtain ⟨j, A4, c4, q, hj, rfl, HR⟩ := hrel
      obtain ⟨Ao, co, rfl, -, -⟩ := (RowT.of_own HR.out.1 (fun _ => True) fun _ _ => trivial).form
      obtain ⟨no, hno⟩ : ∃ no, no = (outT p (l.take j)).length := ⟨_, rfl⟩
      have HNO := Lib.hid hno
      rw [← hno] at HR ⊢
      clear hno
      have hb1r : Below W1.heap.size W1 wr := HB2.out.1.trans (HR.out.2.2.2.2.mono HB2.out.2.2.2)
      have HBR := Lib.hid hb1r
      have hgw : gl + 1 ≤ wr.heap.size := by have := HR.out.2.2.2.2.size; have := HB2.out.2.2.1; omega
      by_cases hlt : j < n
      · have ii : (j : Int) < (n : Int) := by omega
        have hjl : j < l.length := by have := HI.out.2; omega
        obtain ⟨bk, off, rfl, hbb, q0, q1, q2, q3⟩ := (HI.out.1.below hb1r).1.at_ j hjl
        obtain ⟨x, hx⟩ : ∃ x, x = l[j] := ⟨_, rfl⟩
        have o1 := outT_hit (p := p) hjl
        have o2 := leftT_hit (p := p) hjl
        have o3 := outT_no (p := p) hjl
        have o4 := leftT_no (p := p) hjl
        rw [← hx] at q0 q1 q2 q3 o1 o2 o3 o4
        have HO := Lib.hid (And.intro o1 (And.intro o2 (And.intro o3 (And.intro o4 hgw))))
        have hlen1 := Nat.le_trans (outT_len p (l.take j)) (show (l.take j).length ≤ 1000000 by rw [List.length_take]; have := HI.out.2; omega)
        have hlen2 := Nat.le_trans (leftT_len p (l.take j)) (show (l.take j).length ≤ 1000000 by rw [List.length_take]; have := HI.out.2; omega)
        have HL := Lib.hid (And.intro hlen1 hlen2)
        clear o1 o2 o3 o4 hbb hx hjl hb1r hgw hlen1 hlen2
        go_upto_region 8 with fail
        obtain ⟨W3, b3, hW3, hb3, hbb3, hq3, hsz3⟩ := one_box wr (.cells #[.int .i64 x.term, .int .i64 x.round, .int .i64 x.index, .int .i64 x.token] 37)
        rw [← hW3, ← hb3]
        obtain ⟨v0, v1, v2, v3⟩ := cells4 hq3
        have H3 := Lib.hid (And.intro hbb3 (And.intro hsz3 (And.intro hb3 hq3)))
        clear hW3 hb3 hbb3 hq3 hsz3 q0 q1 q2 q3
        cases hp : p x with
        | true =>
          have HP := Lib.hid hp
          have CF := Lib.hid (HCF.out W3 x true (HBR.out.trans (H3.out.1.mono HBR.out.size)) hp)
          clear hp
          go_upto_region 9 with (go_at_fn 25; refine CF.out.mono ?_; rintro y w4 ⟨rfl, hb4⟩; have hq4 := (hb4.block b3 (obj_lt H3.out.2.2.2)).trans H3.out.2.2.2; obtain ⟨v0, v1, v2, v3⟩ := cells4 hq4; have H4 := Lib.hid (H3.out.1.trans (hb4.mono H3.out.1.size)); clear hb4 hq4)
          go_wp2_with (at_builtin; go_must (refine wpList_pushI2 (B := gl + 1) (zs := outT p (l.take j)) (own_kept (own_kept (by rw [← HNO.out]; exact HR.out.1) H4.out) (below_alloc w4 _)) rfl _ _ rfl rfl w4.heap.size rfl x.token (heap_alloc_new w4 _) ?c2 ?c3 ?c4))
          case c2 => have := HL.out.1; omega
          case c3 => have := HO.out.2.2.2.2; have := H4.out.size; first | omega | (rw [World.size_alloc]; omega)
          case c4 =>
            intro v5 w5 ho5 hg5 how5
            have hz4 : (w4.alloc (.cells #[.int .i64 x.token] 3)).heap.size = w4.heap.size + 1 := World.size_alloc _ _
            have hz3 := H4.out.size
            have hkeep : ∀ k, k < wr.heap.size → (Value.slice Ao no co).ownBlock ≠ some k → w5.heap[k]? = wr.heap[k]? := fun k hk hne => by
              rw [hg5.block k (by omega) (fun e => hne e.symm), heap_alloc_old _ _ (by omega)]
              exact H4.out.block k hk
            have hltO : ∀ k, (Value.slice Ao no co).ownBlock = some k → gl + 1 ≤ k ∧ k < wr.heap.size := fun k hk => HR.out.1.lt k hk
            have hltL : ∀ k, (Value.slice A4 q c4).ownBlock = some k → gl + 1 ≤ k ∧ k < wr.heap.size := fun k hk => HR.out.2.1.lt k hk
            have hgs : gl + 1 ≤ wr.heap.size := HO.out.2.2.2.2
            have hb5 : Below gl W2 w5 := ((HR.out.2.2.2.2.trans (H4.out.mono (by omega))).alloc (by omega) _).grown hg5 (by omega) fun k hk => by have := (hltO k hk).1; omega
            have e1 := HO.out.1 HP.out
            have e2 := HO.out.2.1 HP.out
            have hrel2 : Hid (w5.ownsRow (gl + 1) 3 1 v5 (outT p (l.take (j + 1))).length ((outT p (l.take (j + 1))).map (Value.int .i64)) ∧ OwnI w5 (gl + 1) 37 (.slice A4 q c4) (leftT p (l.take (j + 1))) ∧ w5.heap[gl]? = some (.cells #[.int .i64 lim, .slice A4 q c4] 31 (0, 0)) ∧ (∀ k, v5.ownBlock = some k → (Value.slice A4 q c4).ownBlock ≠ some k) ∧ Below gl W2 w5) := Lib.hid (by
              rw [e1, e2]
              refine ⟨by rw [List.length_append, List.map_append] at *; exact ho5, HR.out.2.1.kept fun k hk => hkeep k (hltL k hk).2 fun e => HR.out.2.2.2.1 k e hk, (hkeep gl (by omega) fun e => by have := (hltO gl e).1; omega).trans HR.out.2.2.1, fun k hk hk2 => ?_, hb5⟩
              rcases how5 with h5 | h5
              · rw [h5] at hk; exact HR.out.2.2.2.1 k hk hk2
              · rw [h5] at hk
                injection hk with hk
                have := (hltL k hk2).2
                omega)
            clear hz4 hz3 hkeep hltO hltL hgs hb5 e1 e2 ho5 hg5 how5
            go_wp2_with fail
            go_roundw
            case rel => exact ⟨j + 1, A4, c4, q, by omega, by go_num, hrel2⟩
            case measure => simp [intOf]; omega
        | false =>
          have HP := Lib.hid hp
          have CF := Lib.hid (HCF.out W3 x false (HBR.out.trans (H3.out.1.mono HBR.out.size)) hp)
          clear hp
          go_upto_region 10 with (go_at_fn 25; refine CF.out.mono ?_; rintro y w4 ⟨rfl, hb4⟩; have hq4 := (hb4.block b3 (obj_lt H3.out.2.2.2)).trans H3.out.2.2.2; obtain ⟨v0, v1, v2, v3⟩ := cells4 hq4; have hb4' := H3.out.1.trans (hb4.mono H3.out.1.size); obtain ⟨z0, z1⟩ := cells2 ((hb4'.block gl (by have := HO.out.2.2.2.2; omega)).trans HR.out.2.2.1); have H4 := Lib.hid hb4'; clear hb4 hq4 hb4')
          go_wp2_with (at_builtin; go_must (refine wpList_pushIt (B := gl + 1) (t := 37) (l := leftT p (l.take j)) ((HR.out.2.1.more H4.out).more (below_alloc w4 _)) rfl _ _ 29 Tryd.underlying29 info_it rfl rfl w4.heap.size x rfl (heap_alloc_new w4 _) ?c2 ?c3 ?c4))
          case c2 => have := HL.out.2; omega
          case c3 => have := HO.out.2.2.2.2; have := H4.out.size; first | omega | (rw [World.size_alloc]; omega)
          case c4 =>
            intro v5 w5 ho5 hg5 how5
            obtain ⟨q5, hq5⟩ : ∃ q5, q5 = (leftT p (l.take j) ++ [x]).length := ⟨_, rfl⟩
            obtain ⟨A5, c5, rfl, -, -⟩ := ho5.form hq5.symm
            have hz3 := H4.out.size
            have hgs : gl + 1 ≤ wr.heap.size := HO.out.2.2.2.2
            have hltO : ∀ k, (Value.slice Ao no co).ownBlock = some k → gl + 1 ≤ k ∧ k < wr.heap.size := fun k hk => HR.out.1.lt k hk
            have hltL : ∀ k, (Value.slice A4 q c4).ownBlock = some k → gl + 1 ≤ k ∧ k < wr.heap.size := fun k hk => HR.out.2.1.lt k hk
            have hz4 : ∀ o, (w4.alloc o).heap.size = w4.heap.size + 1 := fun o => World.size_alloc _ _
            have hkeep : ∀ k, k < wr.heap.size → (Value.slice A4 q c4).ownBlock ≠ some k → w5.heap[k]? = wr.heap[k]? := fun k hk hne => by
              rw [hg5.block k (by rw [hz4]; omega) (fun e => hne e.symm), heap_alloc_old _ _ (by omega)]
              exact H4.out.block k hk
            have hgl5 := (hkeep gl (by omega) fun e => by have := (hltL gl e).1; omega).trans HR.out.2.2.1
            have hb5 : Below gl W2 w5 := ((HR.out.2.2.2.2.trans (H4.out.mono (by omega))).alloc (by omega) _).grown hg5 (by rw [hz4]; omega) fun k hk => by have := (hltL k hk).1; omega
            have e1 := HO.out.2.2.1 HP.out
            have e2 := HO.out.2.2.2.1 HP.out
            have hoth : ∀ k, k ≠ gl → (w5.setCell ⟨gl, 1, none⟩ (.slice A5 q5 c5)).heap[k]? = w5.heap[k]? := fun k hk => Below.heap_setCell _ _ _ _ hk
            have hrel2 : Hid ((w5.setCell ⟨gl, 1, none⟩ (.slice A5 q5 c5)).ownsRow (gl + 1) 3 1 (.slice Ao no co) (outT p (l.take (j + 1))).length ((outT p (l.take (j + 1))).map (Value.int .i64)) ∧ OwnI (w5.setCell ⟨gl, 1, none⟩ (.slice A5 q5 c5)) (gl + 1) 37 (.slice A5 q5 c5) (leftT p (l.take (j + 1))) ∧ (w5.setCell ⟨gl, 1, none⟩ (.slice A5 q5 c5)).heap[gl]? = some (.cells #[.int .i64 lim, .slice A5 q5 c5] 31 (0, 0)) ∧ (∀ k, (Value.slice Ao no co).ownBlock = some k → (Value.slice A5 q5 c5).ownBlock ≠ some k) ∧ Below gl W2 (w5.setCell ⟨gl, 1, none⟩ (.slice A5 q5 c5))) := Lib.hid (by
              rw [e1, e2, ← HNO.out]
              refine ⟨own_kept2 HR.out.1 fun k hk => ?_, ho5.kept fun k hk => hoth k (by have := (ho5.lt k hk).1; omega), set1_own hgl5, fun k hk hk2 => ?_, hb5.setCell (Nat.le_refl gl) _⟩
              · rw [hoth k (by have := (hltO k hk).1; omega)]
                exact hkeep k (hltO k hk).2 (HR.out.2.2.2.1 k hk)
              · rcases how5 with h5 | h5
                · rw [h5] at hk2; exact HR.out.2.2.2.1 k hk hk2
                · rw [h5] at hk2
                  try rw [hz4] at hk2
                  injection hk2 with hk2
                  have := (hltO k hk).2
                  omega)
            obtain ⟨y0, y1⟩ := cells2 hgl5
            have f1 := frozen_own hgl5 1
            clear hz3 hkeep hltO hltL hgs hb5 e1 e2 ho5 hg5 how5 hgl5 hoth hq5 hz4
            go_wp2_with fail
            go_roundw
            case rel => exact ⟨j + 1, A5, c5, q5, by omega, by go_num, hrel2⟩
            case measure => simp [intOf]; omega
      · obtain rfl : j = n := by omega
        have ii : ¬ (j : Int) < (j : Int) := by omega
        have htk : l.take j = l := List.take_of_length_le (by have := HI.out.2; omega)
        rw [htk] at HR HNO
        have hl4 := HR.out.2.1.its (fun k => gl + 1 ≤ k ∧ k < wr.heap.size) fun k hk => HR.out.2.1.lt k hk
        have hq4 := hl4.len_.1
        have HL4 := Lib.hid (And.intro hl4 (And.intro hq4 hgw))
        obtain ⟨z0, z1⟩ := cells2 HR.out.2.2.1
        have hS := HQ2.out wr hb1r
        obtain ⟨y0, y1⟩ := cells2 hS
        have f0 := frozen_own hS 0
        have f1 := frozen_own hS 1
        have HSS := Lib.hid hS
        clear htk hl4 hq4 hS hb1r hgw
        go_wp2_with fail
        obtain ⟨WF, hWF, u0, u1, hbF, hoth, hsz2⟩ := queRes (b0 := .int .i64 lim) (b1 := .slice A4 q c4) HSS.out (HE.out.1.trans (HBR.out.mono HE.out.1.size)) (show w.heap.size ≤ g2 by have := HE.out; omega)
        unfold put2 at hWF
        rw [hWF]
        have HF := Lib.hid (And.intro hbF (And.intro hoth hsz2))
        clear hbF hoth hsz2 hWF z0 z1 y0 y1 f0 f1
        obtain rfl : q = m := by rw [HL4.out.2.1]; exact HM.out.1.symm
        obtain rfl : no = k := by rw [HNO.out]; exact HM.out.2.symm
        have hgg : g2 < gl := by have := HB2.out.2.2.2; have := HE.out; omega
        have hgg2 : w.heap.size ≤ gl := by have := HE.out; omega
        refine bodyPost_ret (v := .tuple #[.agg #[.int .i64 lim, .slice A4 q c4], .slice Ao no co]) ?_ rfl ⟨A4, c4, Ao, co, rfl, ⟨HL4.out.1.move (fun k hk _ => HF.out.2.1 k (by have := hk.1; omega)) fun k hk => ⟨by have := hk.1; omega, by rw [HF.out.2.2]; exact hk.2⟩, fun x hx => HI.out.1.2 x ((List.mem_filter.1 hx).1)⟩, ⟨?_, fun z hz => ?_⟩, HF.out.1⟩
        · simp only [results, hres]
          go_simp
        · have h1 : RowT wr (fun k => gl + 1 ≤ k ∧ k < wr.heap.size) 1 (.slice Ao no co) (outT p l).length ((outT p l).map (Value.int .i64)) := RowT.of_own (by rw [← HNO.out]; exact HR.out.1) _ fun k hk => HR.out.1.lt k hk
          exact (h1.kept fun k hk _ => HF.out.2.1 k (by have := hk.1; omega)).mono fun k hk => ⟨by have := hk.1; omega, by rw [HF.out.2.2]; exact hk.2⟩
        · obtain ⟨x, hx, rfl⟩ := List.mem_map.1 hz
          exact (HI.out.1.2 x ((List.mem_filter.1 hx).1)).2.2.2

set_option maxHeartbeats 4000000 in
theorem hitF_any (x : It) (term : Int) (b1 : Nat) (w : World) (c1 : w.heap[b1]? = some (.cells #[.int .i64 term] 3 (0, 0))) :
    Calls Tryd.prog 25 #[.agg #[.int .i64 x.term, .int .i64 x.round, .int .i64 x.index, .int .i64 x.token], .pointer (some ⟨b1, 0, none⟩)] w fun y w' => y = .returned (.bool (hitQ term 0 0 true x)) ∧ Below w.heap.size w w' := by
  obtain ⟨W1, g, hW1, hg, hb1, hq, hsz⟩ := one_box w (.cells #[.int .i64 x.term, .int .i64 x.round, .int .i64 x.index, .int .i64 x.token] 37)
  have HW := Lib.hid (And.intro hW1 hg)
  have HE := Lib.hid hb1
  obtain ⟨x0, x1, x2, x3⟩ := cells4 hq
  have c1 : W1.cell? ⟨b1, 0, none⟩ = some (.int .i64 term) := by rw [cell_of_row W1 b1 0 _ _ (0, 0) ((hb1.block b1 (obj_lt c1)).trans c1)]; rfl
  clear hW1 hg hb1 hq hsz
  obtain ⟨b, hb⟩ : ∃ b, b = hitQ term 0 0 true x := ⟨_, rfl⟩
  rw [← hb]
  have hcases : (¬ x.term = term ∧ b = true) ∨ (x.term = term ∧ b = false) := by
    rw [hb]
    rcases hit_cases term 0 0 true x with ⟨_, h1, h⟩ | ⟨h, _⟩ | ⟨_, h1, h⟩ | ⟨h, _⟩ | ⟨h, _⟩ | ⟨h, _⟩
    · exact Or.inl ⟨h1, h⟩
    · cases h
    · exact Or.inr ⟨h1, h⟩
    · cases h
    · cases h
    · cases h
  obtain ⟨tx, htx⟩ : ∃ tx, tx = x.term := ⟨_, rfl⟩
  rw [← htx] at hcases x0 ⊢
  have HW2 : Hid (W1 = w.alloc (.cells #[.int .i64 tx, .int .i64 x.round, .int .i64 x.index, .int .i64 x.token] 37) ∧ g = w.heap.size) := Lib.hid (by rw [htx]; exact HW.out)
  clear hb htx HW
  rcases hcases with ⟨h1, rfl⟩ | ⟨rfl, rfl⟩
  all_goals
    go_enter Tryd.func25, Tryd.ntmps25
    go_upto_region 1 with fail
    rw [← HW2.out.1, ← HW2.out.2]
    go_wp2_with fail
    go_ret
    exact ⟨ret_bool (by first | rfl | (exact (decide_eq_true h1)) | simp [h1]), HE.out⟩

set_option maxHeartbeats 8000000 in
theorem Fail_any (lim : Int) (l : List It) (A : Option Addr) (n c : Nat) (term : Int) (w : World) (h : Its w (.slice A n c) l) (hl0 : l.length ≤ 1000) (r : Int × List It × List Int) (hr : r = takeQ lim l (hitQ term 0 0 true)) (m k : Nat) (hm : m = r.2.1.length) (hk : k = r.2.2.length) :
    Calls Tryd.prog 11 #[.agg #[.int .i64 lim, .slice A n c], .int .i64 term] w fun y w' => ∃ A1 c1 A2 c2, y = .returned (.tuple #[.agg #[.int .i64 r.1, .slice A1 m c1], .slice A2 k c2]) ∧ FIts w w' (.slice A1 m c1) r.2.1 ∧ FInts w w' (.slice A2 k c2) r.2.2 ∧ Below w.heap.size w w' := by
  obtain ⟨W1, g, gt, g2, hW1, hg, hgt, hg2, hbw, hq, hqt, hq2, hsz1⟩ := three_box w (.cells #[.int .i64 lim, .slice A n c] 31) (.cells #[.int .i64 term] 3) (.cells #[.int .i64 0, .slice none 0 0] 31)
  have HW := Lib.hid (And.intro hW1 (And.intro hg (And.intro hgt hg2)))
  have HE := Lib.hid (And.intro hbw (And.intro hq2 (And.intro (show w.heap.size ≤ g2 by omega) hsz1)))
  obtain ⟨x0, x1⟩ := cells2 hq
  have hcl : ∀ (W : World) (x : It), Below W1.heap.size W1 W → Calls Tryd.prog 25 #[.agg #[.int .i64 x.term, .int .i64 x.round, .int .i64 x.index, .int .i64 x.token], .pointer (some ⟨gt, 0, none⟩)] W fun y w' => y = .returned (.bool (hitQ term 0 0 true x)) ∧ Below W.heap.size W w' := fun W x hW =>
    hitF_any x term _ W ((hW.block _ (obj_lt hqt)).trans hqt)
  have CP := Lib.hid (partF_any lim l A n c gt (hitQ term 0 0 true) W1 (h.below hbw) hl0 hcl r hr m k hm hk)
  have hres : Tryd.f11.results = #[.cell 4 31, .tmp 5] := by kernel_rfl
  clear h hl0 hW1 hg hgt hg2 hbw hq hqt hq2 hsz1 hr hm hk hcl
  go_enter Tryd.func11, Tryd.ntmps11
  go_upto_region 1 with fail
  rw [← HW.out.1, ← HW.out.2.1, ← HW.out.2.2.1, ← HW.out.2.2.2]
  go_wp2_with (go_at_call 23; go_must (refine CP.out.mono ?_; rintro y w1 ⟨A1, c1, A2, c2, rfl, hi1, hi2, hb1⟩; have hq2 := (hb1.block _ (obj_lt HE.out.2.1)).trans HE.out.2.1; obtain ⟨z0, z1⟩ := cells2 hq2; have f0 := frozen_own hq2 0; have f1 := frozen_own hq2 1; have HB := Lib.hid (And.intro hb1 (And.intro hq2 (And.intro hi1 hi2))); clear hb1 hq2 hi1 hi2))
  obtain ⟨WF, hWF, u0, u1, hbF, hoth, hsz2⟩ := queRes (b0 := .int .i64 r.1) (b1 := .slice A1 m c1) HB.out.2.1 (HE.out.1.trans (HB.out.1.mono HE.out.1.size)) HE.out.2.2.1
  unfold put2 at hWF
  rw [hWF]
  have HF := Lib.hid (And.intro hbF (And.intro hoth hsz2))
  clear hbF hoth hsz2 hWF x0 x1 z0 z1 f0 f1
  refine bodyPost_ret (v := .tuple #[.agg #[.int .i64 r.1, .slice A1 m c1], .slice A2 k c2]) ?_ rfl ⟨A1, c1, A2, c2, rfl, ⟨HB.out.2.2.1.1.move (fun k hk _ => HF.out.2.1 k (by have := hk.1; have := HE.out.2.2.2; omega)) fun k hk => ⟨by have := HE.out.1.size; have := hk.1; omega, by rw [HF.out.2.2]; exact hk.2⟩, HB.out.2.2.1.2⟩, ⟨(RowT.kept HB.out.2.2.2.1 fun k hk _ => HF.out.2.1 k (by have := hk.1; have := HE.out.2.2.2; omega)).mono fun k hk => ⟨by have := HE.out.1.size; have := hk.1; omega, by rw [HF.out.2.2]; exact hk.2⟩, HB.out.2.2.2.2⟩, HF.out.1⟩
  simp only [results, hres]
  go_simp

end Go.Proofs.YtojejcafahighaaDoor.pk
