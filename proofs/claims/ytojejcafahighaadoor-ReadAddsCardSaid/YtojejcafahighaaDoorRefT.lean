/-
  The document's own words of a queue: Take.
-/
import Derived.Test.YtojejcafahighaaDoorRefK
namespace Go.Proofs.YtojejcafahighaaDoor.pk
open Go Go.RowKit
set_option maxRecDepth 100000

section
variable {w : World} {B : Nat} {v : Value} {zs : List Int} {ops : Array Oper} {rest : List Oper} {o : Oper} {a : Act} {R : Exit → Act → World → Prop}
/-- One more number onto a row of one's own, and where it lies then. -/
theorem wpList_pushI2 (hown : w.ownsRow B 3 1 v zs.length (zs.map (Value.int .i64))) (hgd : o.guard = none) (s x : Operand)
    (ho : o.op = .call { callee := .builtin .append, args := #[s, x], argTypes := #[40, 40] }) (hs : a.eval s = v) (g : Nat) (hx : a.eval x = .slice (some ⟨g, 0, none⟩) 1 1) (z : Int)
    (hg : w.heap[g]? = some (.cells #[.int .i64 z] 3 (0, 0))) (hl : zs.length < 1000000000000) (hB : B ≤ w.heap.size)
    (hK : ∀ v' w', w'.ownsRow B 3 1 v' (zs ++ [z]).length ((zs ++ [z]).map (Value.int .i64)) → w.grownBy w' v.ownBlock → (v'.ownBlock = v.ownBlock ∨ v'.ownBlock = some w.heap.size) → wpList Tryd.prog ops R rest (a.put o.dst v') w') : wpList Tryd.prog ops R (o :: rest) a w :=
  wpList_plain hgd fun K hK' => by
    obtain ⟨i0, hi, hz0, hz1, hz2⟩ := info_three info_int
    obtain ⟨v', w', hrun, h2, h3, -, h4⟩ := run_append_own_at (P := Tryd.prog) w B 40 o.type 3 i0 _ 1 8 Tryd.underlying40 hi hz0 hz1 hz2 rfl (by omega) v zs.length _ hown ⟨g, 0, none⟩ 1 1 [.int .i64 z] rfl
      (fun j u hj => by
        rw [Lib.add_plain, Nat.zero_add, cell_of_row w g _ _ _ (0, 0) hg]
        simpa using hj) (fun u hu => by
        simp only [List.mem_cons, List.not_mem_nil, or_false] at hu
        rw [hu]; rfl) (by simp only [maxLen]; omega) (by omega) hB
    unfold Oper.wp execOp
    simp only [ho, resolve, invoke, builtin, Sem.run_bind, Sem.run_pure, Result.andThen_ok, List.map_toArray, List.map_cons, List.map_nil, hs, hx, hrun]
    refine hK' _ _ (hK v' w' ?_ h3 h4)
    rw [List.length_append, List.map_append]
    exact h2
end
theorem own_kept2 {w w' : World} {base e sz n : Nat} {v : Value} {xs : List Value} (h : w.ownsRow base e sz v n xs) (hk : ∀ k, v.ownBlock = some k → w'.heap[k]? = w.heap[k]?) : w'.ownsRow base e sz v n xs := by
  refine ⟨h.1, ?_⟩
  rcases h.2 with hn | ⟨g, cap, cur, rfl, h1, hg, rest⟩
  · exact Or.inl hn
  · exact Or.inr ⟨g, cap, cur, rfl, h1, (hk g rfl).trans hg, rest⟩

/-- What is taken out of the first ones, and what is left of them. -/
def outT (p : It → Bool) (l : List It) : List Int := (l.filter p).map It.token
def leftT (p : It → Bool) (l : List It) : List It := l.filter fun x => !p x
theorem outT_hit {p : It → Bool} {l : List It} {j : Nat} (hj : j < l.length) (h : p l[j] = true) : outT p (l.take (j + 1)) = outT p (l.take j) ++ [l[j].token] := by
  unfold outT; rw [List.take_succ_eq_append_getElem hj, List.filter_append, List.map_append, List.filter_cons, if_pos h]; rfl
theorem leftT_hit {p : It → Bool} {l : List It} {j : Nat} (hj : j < l.length) (h : p l[j] = true) : leftT p (l.take (j + 1)) = leftT p (l.take j) := by
  unfold leftT; rw [List.take_succ_eq_append_getElem hj, List.filter_append, List.filter_cons, if_neg (by rw [h]; simp)]; simp
theorem outT_no {p : It → Bool} {l : List It} {j : Nat} (hj : j < l.length) (h : p l[j] = false) : outT p (l.take (j + 1)) = outT p (l.take j) := by
  unfold outT; rw [List.take_succ_eq_append_getElem hj, List.filter_append, List.filter_cons, if_neg (by rw [h]; simp)]; simp
theorem leftT_no {p : It → Bool} {l : List It} {j : Nat} (hj : j < l.length) (h : p l[j] = false) : leftT p (l.take (j + 1)) = leftT p (l.take j) ++ [l[j]] := by
  unfold leftT; rw [List.take_succ_eq_append_getElem hj, List.filter_append, List.filter_cons, if_pos (by rw [h]; rfl)]; rfl
theorem outT_len (p : It → Bool) (l : List It) : (outT p l).length ≤ l.length := by unfold outT; rw [List.length_map]; exact List.length_filter_le ..
theorem leftT_len (p : It → Bool) (l : List It) : (leftT p l).length ≤ l.length := List.length_filter_le ..
theorem takeQ_cases (lim : Int) (l : List It) (p : It → Bool) : (mayQ lim l = false ∧ takeQ lim l p = (0, [], [])) ∨ (mayQ lim l = true ∧ takeQ lim l p = (lim, leftT p l, outT p l)) := by
  unfold takeQ
  cases mayQ lim l with
  | false => left; exact ⟨rfl, if_pos rfl⟩
  | true => right; exact ⟨rfl, if_neg (by simp)⟩
theorem hit_cases (term heard applied : Int) (other : Bool) (x : It) : (other = true ∧ ¬ x.term = term ∧ hitQ term heard applied other x = true) ∨ (other = false ∧ x.term = term ∧ x.round ≤ heard ∧ x.index ≤ applied ∧ hitQ term heard applied other x = true) ∨
    (other = true ∧ x.term = term ∧ hitQ term heard applied other x = false) ∨ (other = false ∧ ¬ x.term = term ∧ hitQ term heard applied other x = false) ∨ (other = false ∧ x.term = term ∧ ¬ x.round ≤ heard ∧ hitQ term heard applied other x = false) ∨ (other = false ∧ x.term = term ∧ x.round ≤ heard ∧ ¬ x.index ≤ applied ∧ hitQ term heard applied other x = false) := by
  unfold hitQ
  cases other with
  | true =>
    by_cases h : x.term = term
    · simp [h]
    · simp [h]
  | false =>
    by_cases h : x.term = term
    · by_cases h2 : x.round ≤ heard
      · by_cases h3 : x.index ≤ applied
        · simp [h, h2, h3]
        · simp [h, h2, h3]
      · simp [h, h2]
    · simp [h]

set_option maxHeartbeats 16000000 in
theorem Take_ref (lim : Int) (l : List It) (A : Option Addr) (n c : Nat) (term heard applied : Int) (other : Bool) (w : World) (h : Its w (.slice A n c) l) (hl0 : l.length < 1000000) (r : Int × List It × List Int) (hr : r = takeQ lim l (hitQ term heard applied other)) (m k : Nat) (hm : m = r.2.1.length) (hk : k = r.2.2.length) :
    Calls Tryd.prog 10 #[.agg #[.int .i64 lim, .slice A n c], .int .i64 term, .int .i64 heard, .int .i64 applied, .bool other] w fun y w' => ∃ A1 c1 A2 c2, y = .returned (.tuple #[.agg #[.int .i64 r.1, .slice A1 m c1], .slice A2 k c2]) ∧ Its w' (.slice A1 m c1) r.2.1 ∧ Ints w' (.slice A2 k c2) r.2.2 ∧ Below w.heap.size w w' := by
  obtain ⟨W1, g, g2, hW1, hg, hg2, hbw, hq, hq2, hsz1⟩ := two_box w (.cells #[.int .i64 lim, .slice A n c] 24) (.cells #[.int .i64 0, .slice none 0 0] 24)
  have HW := Lib.hid (And.intro hW1 (And.intro hg hg2))
  have HE := Lib.hid (And.intro hbw (And.intro (show w.heap.size ≤ g by omega) (And.intro (show g < g2 by omega) hsz1)))
  obtain ⟨hn, hnc, hcm⟩ := h.len_
  have HI := Lib.hid (And.intro (h.below hbw) (And.intro hn hl0))
  have HCL := Lib.hid (show ∀ W, Below g2 W1 W → W.cell? ⟨g, 0, none⟩ = some (.int .i64 lim) ∧ W.cell? ⟨g, 1, none⟩ = some (.slice A n c) from fun W hW => cells2 ((hW.block g (by omega)).trans hq))
  have HQ2 := Lib.hid (show ∀ W, Below W1.heap.size W1 W → W.heap[g2]? = some (.cells #[.int .i64 0, .slice none 0 0] 24 (0, 0)) from fun W hW => (hW.block g2 (obj_lt hq2)).trans hq2)
  have H21 := Lib.hid (show ∀ W, Below W1.heap.size W1 W → Below g2 W1 W from fun W hW => hW.mono (by omega))
  have hres : Tryd.f10.results = #[.cell 10 24, .tmp 11] := by kernel_rfl
  obtain ⟨x0, x1⟩ := HCL.out W1 (Below.refl _ _)
  have CM := Lib.hid fun b hb => May_ref lim l A n c W1 HI.out.1 b hb
  have in1 : (n : Int) ≤ 1000000 := by omega
  obtain ⟨p, hp⟩ : ∃ p, p = hitQ term heard applied other := ⟨_, rfl⟩
  have hcases := fun x => hit_cases term heard applied other x
  rw [← hp] at hr
  simp only [← hp] at hcases
  rcases takeQ_cases lim l p with ⟨c1, hf⟩ | ⟨c1, hf⟩
  · have CM := Lib.hid (CM.out _ c1.symm)
    obtain rfl := hr.trans hf
    obtain rfl : m = 0 := hm
    obtain rfl : k = 0 := hk
    clear h hl0 hW1 hg hg2 hq2 hsz1 hbw hq hr hf hn hnc hcm c1 hcases hp
    go_enter Tryd.func10, Tryd.ntmps10
    go_upto_region 1 with fail
    rw [← HW.out.1, ← HW.out.2.1, ← HW.out.2.2]
    go_wp2_with (go_at_call 13; go_must (refine CM.out.mono ?_; rintro y w1 ⟨rfl, hb1⟩; have hq2 := HQ2.out w1 hb1; obtain ⟨z0, z1⟩ := cells2 hq2; have f0 := frozen_own hq2 0; have f1 := frozen_own hq2 1; have HB := Lib.hid (And.intro hb1 hq2); clear hb1 hq2))
    obtain ⟨WF, hWF, u0, u1, hbF, hoth, hsz2⟩ := queRes (b0 := .int .i64 0) (b1 := .slice none 0 0) HB.out.2 (HE.out.1.trans (HB.out.1.mono HE.out.1.size)) (show w.heap.size ≤ g2 by have := HE.out; omega)
    unfold put2 at hWF
    rw [hWF]
    have HBF := Lib.hid hbF
    clear hbF hoth hsz2 hWF x0 x1 z0 z1 f0 f1
    refine bodyPost_ret (v := .tuple #[.agg #[.int .i64 0, .slice none 0 0], .slice none 0 0]) ?_ rfl ⟨none, 0, none, 0, rfl, Its.nil_ _, Ints.nil_ _, HBF.out⟩
    simp only [results, hres]
    go_simp
  · have CM := Lib.hid (CM.out _ c1.symm)
    obtain rfl := hr.trans hf
    have HM := Lib.hid (And.intro hm hk)
    have HC := Lib.hid hcases
    clear h hl0 hW1 hg hg2 hq2 hsz1 hbw hq hr hf hn hcm c1 hm hk hnc hcases hp
    go_enter Tryd.func10, Tryd.ntmps10
    go_upto_region 1 with fail
    rw [← HW.out.1, ← HW.out.2.1, ← HW.out.2.2]
    go_upto_region 5 with (go_at_call 13; go_must (refine CM.out.mono ?_; rintro y w1 ⟨rfl, hb1⟩; obtain ⟨x0, x1⟩ := HCL.out w1 (H21.out w1 hb1); have HB := Lib.hid hb1; clear hb1))
    obtain ⟨W2, gl, hW2, hgl, hb2, hql, hsz2⟩ := one_box w1 (.cells #[.int .i64 lim, .slice none 0 0] 24)
    rw [← hW2, ← hgl]
    have HB2 := Lib.hid (And.intro (HB.out.trans (hb2.mono HB.out.size)) (And.intro hql (And.intro hsz2 (show W1.heap.size ≤ gl by rw [hgl]; exact HB.out.size))))
    clear hW2 hgl hb2 hql hsz2 x0 x1
    go_wp2_with fail
    go_loopw [12, 14] (fun ov ii wr => ∃ (j : Nat) (A4 : Option Addr) (c4 : Nat) (q : Nat), j ≤ n ∧ ii = .int .i64 (j : Int) ∧ Hid (wr.ownsRow (gl + 1) 3 1 ov (outT p (l.take j)).length ((outT p (l.take j)).map (Value.int .i64)) ∧ OwnI wr (gl + 1) 26 (.slice A4 q c4) (leftT p (l.take j)) ∧ wr.heap[gl]? = some (.cells #[.int .i64 lim, .slice A4 q c4] 24 (0, 0)) ∧ (∀ k, ov.ownBlock = some k → (Value.slice A4 q c4).ownBlock ≠ some k) ∧ Below gl W2 wr)) (fun _ ii _ => n - (intOf ii).toNat)
    case atStart => exact ⟨0, none, 0, 0, Nat.zero_le _, rfl, Lib.hid ⟨World.ownsRow_nil _ _ _ _, OwnI.nil_ _ _ _, HB2.out.2.1, fun k hk => by (cases hk), Below.refl _ _⟩⟩
    case round =>
      obtain ⟨j, A4, c4, q, hj, rfl, HR⟩ := hrel
      obtain ⟨Ao, co, rfl, -, -⟩ := (RowT.of_own HR.out.1 (fun _ => True) fun _ _ => trivial).form
      obtain ⟨no, hno⟩ : ∃ no, no = (outT p (l.take j)).length := ⟨_, rfl⟩
      have HNO := Lib.hid hno
      rw [← hno] at HR ⊢
      clear hno
      have hb1r : Below W1.heap.size W1 wr := HB2.out.1.trans (HR.out.2.2.2.2.mono HB2.out.2.2.2)
      obtain ⟨x0, x1⟩ := HCL.out wr (H21.out wr hb1r)
      have HBR := Lib.hid hb1r
      have hgw : gl + 1 ≤ wr.heap.size := by have := HR.out.2.2.2.2.size; have := HB2.out.2.2.1; omega
      by_cases hlt : j < n
      · have ii : (j : Int) < (n : Int) := by omega
        have hjl : j < l.length := by have := HI.out.2; omega
        obtain ⟨bk, off, rfl, hbb, q0, q1, q2, q3⟩ := (HI.out.1.below hb1r).1.at_ j hjl
        obtain ⟨x, hx⟩ : ∃ x, x = l[j] := ⟨_, rfl⟩
        have hcx := HC.out x
        obtain ⟨tx, htx⟩ : ∃ tx, tx = x.term := ⟨_, rfl⟩
        rw [← htx] at hcx
        have o1 := outT_hit (p := p) hjl
        have o2 := leftT_hit (p := p) hjl
        have o3 := outT_no (p := p) hjl
        have o4 := leftT_no (p := p) hjl
        rw [← hx] at q0 q1 q2 q3 o1 o2 o3 o4
        rw [← htx] at q0
        have HTX := Lib.hid htx
        obtain ⟨bx, hbx⟩ : ∃ bx, bx = wr.heap.size := ⟨_, rfl⟩
        have HO := Lib.hid (And.intro o1 (And.intro o2 (And.intro o3 (And.intro o4 (And.intro hgw hbx)))))
        have hal := below_alloc wr (.cells #[.int .i64 tx, .int .i64 x.round, .int .i64 x.index, .int .i64 x.token] 26)
        have hlen1 := Nat.le_trans (outT_len p (l.take j)) (show (l.take j).length ≤ 1000000 by rw [List.length_take]; have := HI.out.2; omega)
        have hlen2 := Nat.le_trans (leftT_len p (l.take j)) (show (l.take j).length ≤ 1000000 by rw [List.length_take]; have := HI.out.2; omega)
        have HL := Lib.hid (And.intro hlen1 (And.intro hlen2 hal))
        clear htx o1 o2 o3 o4 hbb hx hjl hb1r hbx hgw hlen1 hlen2 hal
        have HGL := Lib.hid HR.out.2.2.1
        have hgs : gl + 1 ≤ wr.heap.size := HO.out.2.2.2.2.1
        rcases hcx with ⟨rfl, h1, hh⟩ | ⟨rfl, rfl, h2, h3, hh⟩ | ⟨rfl, rfl, hh⟩ | ⟨rfl, h1, hh⟩ | ⟨rfl, rfl, h2, hh⟩ | ⟨rfl, rfl, h2, h3, hh⟩
        case inl | inr.inl =>
          have HH := Lib.hid hh
          clear hh hgs
          go_upto_region 10 with fail
          obtain ⟨W3, b3, hW3, hb3, hbb3, hq3, hsz3⟩ := one_box wr (.cells #[.int .i64 tx, .int .i64 x.round, .int .i64 x.index, .int .i64 x.token] 26)
          rw [← hW3, ← hb3]
          obtain ⟨v0, v1, v2, v3⟩ := cells4 hq3
          have H3 := Lib.hid (And.intro hbb3 (And.intro hsz3 hb3))
          clear hW3 hb3 hbb3 hq3 hsz3 x0 x1 q0 q1 q2 q3
          go_wp2_with (at_builtin; go_must (refine wpList_pushI2 (B := gl + 1) (zs := outT p (l.take j)) (own_kept (own_kept (by rw [← HNO.out]; exact HR.out.1) H3.out.1) (below_alloc W3 _)) rfl _ _ rfl rfl W3.heap.size rfl x.token (heap_alloc_new W3 _) ?c2 ?c3 ?c4))
          case c2 => have := HL.out.1; omega
          case c3 => have := HO.out.2.2.2.2.1; have := H3.out.1.size; first | omega | (rw [World.size_alloc]; omega)
          case c4 =>
            intro v5 w5 ho5 hg5 how5
            have hz4 : (W3.alloc (.cells #[.int .i64 x.token] 3)).heap.size = W3.heap.size + 1 := World.size_alloc _ _
            have hz3 := H3.out.1.size
            have hkeep : ∀ k, k < wr.heap.size → (Value.slice Ao no co).ownBlock ≠ some k → w5.heap[k]? = wr.heap[k]? := fun k hk hne => by
              rw [hg5.block k (by omega) (fun e => hne e.symm), heap_alloc_old _ _ (by omega)]
              exact H3.out.1.block k hk
            have hltO : ∀ k, (Value.slice Ao no co).ownBlock = some k → gl + 1 ≤ k ∧ k < wr.heap.size := fun k hk => HR.out.1.lt k hk
            have hltL : ∀ k, (Value.slice A4 q c4).ownBlock = some k → gl + 1 ≤ k ∧ k < wr.heap.size := fun k hk => HR.out.2.1.lt k hk
            have hgs : gl + 1 ≤ wr.heap.size := HO.out.2.2.2.2.1
            have hb5 : Below gl W2 w5 := ((HR.out.2.2.2.2.trans (H3.out.1.mono (by omega))).alloc (by omega) _).grown hg5 (by omega) fun k hk => by have := (hltO k hk).1; omega
            have e1 := HO.out.1 HH.out
            have e2 := HO.out.2.1 HH.out
            have hrel2 : Hid (w5.ownsRow (gl + 1) 3 1 v5 (outT p (l.take (j + 1))).length ((outT p (l.take (j + 1))).map (Value.int .i64)) ∧ OwnI w5 (gl + 1) 26 (.slice A4 q c4) (leftT p (l.take (j + 1))) ∧ w5.heap[gl]? = some (.cells #[.int .i64 lim, .slice A4 q c4] 24 (0, 0)) ∧ (∀ k, v5.ownBlock = some k → (Value.slice A4 q c4).ownBlock ≠ some k) ∧ Below gl W2 w5) := Lib.hid (by
              rw [e1, e2]
              refine ⟨by rw [List.length_append, List.map_append] at *; exact ho5, HR.out.2.1.kept fun k hk => hkeep k (hltL k hk).2 fun e => HR.out.2.2.2.1 k e hk, (hkeep gl (by omega) fun e => by have := (hltO gl e).1; omega).trans HR.out.2.2.1, fun k hk hk2 => ?_, hb5⟩
              rcases how5 with h5 | h5
              · rw [h5] at hk; exact HR.out.2.2.2.1 k hk hk2
              · rw [h5] at hk
                injection hk with hk
                have := (hltL k hk2).2
                omega)
            clear hz4 hz3 hkeep hltO hltL hgs hb5 e1 e2 ho5 hg5 how5
            go_wp2_with fail
            go_roundw
            case rel => exact ⟨j + 1, A4, c4, q, by omega, by go_num, hrel2⟩
            case measure => simp [intOf]; omega
        all_goals
          have HH := Lib.hid hh
          clear hh hgs
          go_upto_region 11 with fail
          obtain ⟨W3, b3, hW3, hb3, hbb3, hq3, hsz3⟩ := one_box wr (.cells #[.int .i64 _, .int .i64 x.round, .int .i64 x.index, .int .i64 x.token] 26)
          rw [← hW3, ← hb3]
          obtain ⟨v0, v1, v2, v3⟩ := cells4 hq3
          obtain ⟨z0, z1⟩ := cells2 ((hbb3.block gl (by have := HO.out.2.2.2.2.1; omega)).trans HGL.out)
          have H3 := Lib.hid (And.intro hbb3 (And.intro hsz3 hb3))
          clear hW3 hb3 hbb3 hq3 hsz3 x0 x1 q0 q1 q2 q3
          go_wp2_with (at_builtin; go_must (refine wpList_pushIt (B := gl + 1) (t := 26) (l := leftT p (l.take j)) ((HR.out.2.1.more H3.out.1).more (below_alloc W3 _)) rfl _ _ 22 Tryd.underlying22 info_itr rfl rfl W3.heap.size x rfl (by rw [← HTX.out]; exact heap_alloc_new W3 _) ?c2 ?c3 ?c4))
          case c2 => have := HL.out.2.1; omega
          case c3 => have := HO.out.2.2.2.2.1; have := H3.out.1.size; first | omega | (rw [World.size_alloc]; omega)
          case c4 =>
            intro v5 w5 ho5 hg5 how5
            obtain ⟨q5, hq5⟩ : ∃ q5, q5 = (leftT p (l.take j) ++ [x]).length := ⟨_, rfl⟩
            obtain ⟨A5, c5, rfl, -, -⟩ := ho5.form hq5.symm
            have hz3 := H3.out.1.size
            have hgs : gl + 1 ≤ wr.heap.size := HO.out.2.2.2.2.1
            have hltO : ∀ k, (Value.slice Ao no co).ownBlock = some k → gl + 1 ≤ k ∧ k < wr.heap.size := fun k hk => HR.out.1.lt k hk
            have hltL : ∀ k, (Value.slice A4 q c4).ownBlock = some k → gl + 1 ≤ k ∧ k < wr.heap.size := fun k hk => HR.out.2.1.lt k hk
            have hz4 : ∀ o, (W3.alloc o).heap.size = W3.heap.size + 1 := fun o => World.size_alloc _ _
            have hkeep : ∀ k, k < wr.heap.size → (Value.slice A4 q c4).ownBlock ≠ some k → w5.heap[k]? = wr.heap[k]? := fun k hk hne => by
              rw [hg5.block k (by rw [hz4]; omega) (fun e => hne e.symm), heap_alloc_old _ _ (by omega)]
              exact H3.out.1.block k hk
            have hgl5 := (hkeep gl (by omega) fun e => by have := (hltL gl e).1; omega).trans HR.out.2.2.1
            have hb5 : Below gl W2 w5 := ((HR.out.2.2.2.2.trans (H3.out.1.mono (by omega))).alloc (by omega) _).grown hg5 (by rw [hz4]; omega) fun k hk => by have := (hltL k hk).1; omega
            have e1 := HO.out.2.2.1 HH.out
            have e2 := HO.out.2.2.2.1 HH.out
            have hoth : ∀ k, k ≠ gl → (w5.setCell ⟨gl, 1, none⟩ (.slice A5 q5 c5)).heap[k]? = w5.heap[k]? := fun k hk => Below.heap_setCell _ _ _ _ hk
            have hrel2 : Hid ((w5.setCell ⟨gl, 1, none⟩ (.slice A5 q5 c5)).ownsRow (gl + 1) 3 1 (.slice Ao no co) (outT p (l.take (j + 1))).length ((outT p (l.take (j + 1))).map (Value.int .i64)) ∧ OwnI (w5.setCell ⟨gl, 1, none⟩ (.slice A5 q5 c5)) (gl + 1) 26 (.slice A5 q5 c5) (leftT p (l.take (j + 1))) ∧ (w5.setCell ⟨gl, 1, none⟩ (.slice A5 q5 c5)).heap[gl]? = some (.cells #[.int .i64 lim, .slice A5 q5 c5] 24 (0, 0)) ∧ (∀ k, (Value.slice Ao no co).ownBlock = some k → (Value.slice A5 q5 c5).ownBlock ≠ some k) ∧ Below gl W2 (w5.setCell ⟨gl, 1, none⟩ (.slice A5 q5 c5))) := Lib.hid (by
              rw [e1, e2, ← HNO.out]
              refine ⟨own_kept2 HR.out.1 fun k hk => ?_, ho5.kept fun k hk => hoth k (by have := (ho5.lt k hk).1; omega), set1_own hgl5, fun k hk hk2 => ?_, hb5.setCell (Nat.le_refl gl) _⟩
              · rw [hoth k (by have := (hltO k hk).1; omega)]
                exact hkeep k (hltO k hk).2 (HR.out.2.2.2.1 k hk)
              · rcases how5 with h5 | h5
                · rw [h5] at hk2; exact HR.out.2.2.2.1 k hk hk2
                · rw [h5] at hk2
                  try rw [hz4] at hk2
                  injection hk2 with hk2
                  have := (hltO k hk).2
                  omega)
            obtain ⟨y0, y1⟩ := cells2 hgl5
            have f1 := frozen_own hgl5 1
            clear hz3 hkeep hltO hltL hgs hb5 e1 e2 ho5 hg5 how5 hgl5 hoth hq5 hz4
            go_wp2_with fail
            go_roundw
            case rel => exact ⟨j + 1, A5, c5, q5, by omega, by go_num, hrel2⟩
            case measure => simp [intOf]; omega
      · obtain rfl : j = n := by omega
        have ii : ¬ (j : Int) < (j : Int) := by omega
        have htk : l.take j = l := List.take_of_length_le (by have := HI.out.2; omega)
        rw [htk] at HR HNO
        have hl4 := HR.out.2.1.its (fun k => gl + 1 ≤ k ∧ k < wr.heap.size) fun k hk => HR.out.2.1.lt k hk
        have hq4 := hl4.len_.1
        have HL4 := Lib.hid (And.intro hl4 (And.intro hq4 hgw))
        obtain ⟨z0, z1⟩ := cells2 HR.out.2.2.1
        have hS := HQ2.out wr hb1r
        obtain ⟨y0, y1⟩ := cells2 hS
        have f0 := frozen_own hS 0
        have f1 := frozen_own hS 1
        have HSS := Lib.hid hS
        clear htk hl4 hq4 hS hb1r hgw
        go_wp2_with fail
        obtain ⟨WF, hWF, u0, u1, hbF, hoth, hsz2⟩ := queRes (b0 := .int .i64 lim) (b1 := .slice A4 q c4) HSS.out (HE.out.1.trans (HBR.out.mono HE.out.1.size)) (show w.heap.size ≤ g2 by have := HE.out; omega)
        unfold put2 at hWF
        rw [hWF]
        have HF := Lib.hid (And.intro hbF (And.intro hoth hsz2))
        clear hbF hoth hsz2 hWF x0 x1 z0 z1 y0 y1 f0 f1
        obtain rfl : q = m := by rw [HL4.out.2.1]; exact HM.out.1.symm
        obtain rfl : no = k := by rw [HNO.out]; exact HM.out.2.symm
        have hgg : g2 < gl := by have := HB2.out.2.2.2; have := HE.out; omega
        refine bodyPost_ret (v := .tuple #[.agg #[.int .i64 lim, .slice A4 q c4], .slice Ao no co]) ?_ rfl ⟨A4, c4, Ao, co, rfl, ⟨HL4.out.1.move (fun k hk _ => HF.out.2.1 k (by have := hk.1; omega)) fun k hk => by rw [HF.out.2.2]; exact hk.2, fun x hx => HI.out.1.2 x ((List.mem_filter.1 hx).1)⟩, ⟨?_, fun z hz => ?_⟩, HF.out.1⟩
        · simp only [results, hres]
          go_simp
        · have h1 : RowT wr (fun k => gl + 1 ≤ k ∧ k < wr.heap.size) 1 (.slice Ao no co) (outT p l).length ((outT p l).map (Value.int .i64)) := RowT.of_own (by rw [← HNO.out]; exact HR.out.1) _ fun k hk => HR.out.1.lt k hk
          exact (h1.kept fun k hk _ => HF.out.2.1 k (by have := hk.1; omega)).mono fun k hk => by rw [HF.out.2.2]; exact hk.2
        · obtain ⟨x, hx, rfl⟩ := List.mem_map.1 hz
          exact (HI.out.1.2 x ((List.mem_filter.1 hx).1)).2.2.2

end Go.Proofs.YtojejcafahighaaDoor.pk
