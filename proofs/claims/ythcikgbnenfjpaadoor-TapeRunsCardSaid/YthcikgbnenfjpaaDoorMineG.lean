/-
  The program's own Write: walked.
-/
import Derived.Test.YthcikgbnenfjpaaDoorMineE
import Derived.Test.YthcikgbnenfjpaaDoorMineF
namespace Go.Proofs.YthcikgbnenfjpaaDoor.pk
open Go Go.RowKit
set_option maxRecDepth 100000

theorem wp_append_at {P : Program} {w : World} {o : Oper} {a : Act} {K : Act → World → Prop} {Q : Exit → Act → World → Prop} (s x : Operand) (t : TypeId)
    (ho : o.op = .call { callee := .builtin .append, args := #[s, x], argTypes := #[t, t] })
    (base : Nat) (e : TypeId) (i : TypeInfo) (z : Value) (size bytes : Nat) (ht : P.underlying t = some (.slice e)) (hi : P.info? e = some i) (hz : i.zero = some z)
    (hsize : i.size = size) (hby : i.bytes = bytes) (hzs : z.cells.size = size) (hs0 : 0 < size) (v : Value) (n : Nat) (xs : List Value) (hs : a.eval s = v) (hown : w.ownsRow base e size v n xs)
    (ad : Addr) (m c : Nat) (cs : List Value) (hx : a.eval x = .slice (some ad) m c) (hl : cs.length = m * size) (hc : ∀ j u, cs[j]? = some u → w.cell? (ad.add j) = some u) (h1c : ∀ u ∈ cs, u.oneCell' = true) (hmax : n + m ≤ maxLen) (hbytes : (n + m) * bytes ≤ 140737488355328) (hbase : base ≤ w.heap.size)
    (hK : ∀ v' w', w'.ownsRow base e size v' (n + m) (xs ++ cs) → w.grownBy w' v.ownBlock → (v'.ownBlock = v.ownBlock ∨ v'.ownBlock = some w.heap.size) → K (a.put o.dst v') w') : o.wp P a w K Q := by
  obtain ⟨v', w', hrun, h2, h3, -, h4⟩ := run_append_own_at (P := P) w base t o.type e i z size bytes ht hi hz hsize hby hzs hs0 v n xs hown ad m c cs hl hc h1c hmax hbytes hbase
  unfold Oper.wp execOp
  simp only [ho, resolve, invoke, builtin, Sem.run_bind, Sem.run_pure, Result.andThen_ok, List.map_toArray, List.map_cons, List.map_nil, hs, hx, hrun]
  exact hK v' w' h2 h3 h4

section
variable {w w' : World} {S : Nat → Prop} {p gn gs nc sc n : Nat} {vw : Value} {cs : List Value} {nowb safeb : List UInt8} {L : List (Nat × List UInt8)} {off ar : Bool} {ah : Int}

/-- One write more. -/
theorem Rep.push (h : Rep w S p gn gs nc sc n vw cs nowb safeb L off ar ah) (hs : w.heap.size ≤ w'.heap.size) (hk : ∀ k, k < w.heap.size → vw.ownBlock ≠ some k → w'.heap[k]? = w.heap[k]?) {v : Value} {at_ : Nat} {u : Value} {x : List UInt8}
    (ho : w'.ownsRow 0 65 2 v (L.length + 1) (cs ++ [.int .i64 (at_ : Int), u])) (hv : ∀ g, v.ownBlock = some g → vw.ownBlock = some g ∨ w.heap.size ≤ g)
    (hu : SlT w' (fun k => w.heap.size ≤ k ∧ k < w'.heap.size ∧ v.ownBlock ≠ some k) u x) :
    Rep (w'.setCell ⟨p, 2, none⟩ v) (fun k => S k ∨ (w.heap.size ≤ k ∧ k < w'.heap.size)) p gn gs nc sc n v (cs ++ [.int .i64 (at_ : Int), u]) nowb safeb (L ++ [(at_, x)]) off ar ah := by
  have hp := h.foot p h.sp
  have hn := h.foot gn h.sn
  have hss := h.foot gs h.ss
  have hq : ∀ k, k ≠ p → (w'.setCell ⟨p, 2, none⟩ v).heap[k]? = w'.heap[k]? := fun k hk => by simp [World.setCell, Array.getElem?_modify, Ne.symm hk]
  have hz : (w'.setCell ⟨p, 2, none⟩ v).heap.size = w'.heap.size := by simp [World.setCell]
  have d4 : ∀ g, v.ownBlock = some g → g ≠ p ∧ g ≠ gn ∧ g ≠ gs := fun g e => by
    rcases hv g e with h1 | h1
    · exact h.d4 g h1
    · exact ⟨by omega, by omega, by omega⟩
  have hb : w'.heap[p]? = _ := (hk p hp (fun e => (h.d4 p e).1 rfl)).trans h.box
  refine ⟨by simp [World.setCell, Array.getElem?_modify, hb], ?_, ?_, ?_, ?_, h.d1, h.d2, h.d3, d4, Or.inl h.sp, Or.inl h.sn, Or.inl h.ss, fun g e => ?_, fun k hk' => ?_⟩
  · exact own_block h.now fun g e => by
      have e := own_eq e
      rw [← e]
      exact (hq gn h.d1.symm).trans (hk gn hn (fun e => (h.d4 gn e).2.1 rfl))
  · exact own_block h.safe fun g e => by
      have e := own_eq e
      rw [← e]
      exact (hq gs h.d2.symm).trans (hk gs hss (fun e => (h.d4 gs e).2.2 rfl))
  · rw [List.length_append]
    exact own_block ho fun g e => hq g (d4 g e).1
  · have hl : cs.length = L.length * 2 := h.rows.1
    intro j hj
    have hj' : j < L.length ∨ j = L.length := by simp at hj; omega
    rcases hj' with hlt | rfl
    · obtain ⟨h1, y, h2, h3⟩ := h.elems j hlt
      refine ⟨?_, y, ?_, ?_⟩
      · rw [List.getElem?_append_left (by omega), h1, List.getElem_append_left hlt]
      · rw [List.getElem?_append_left (by omega), h2]
      · rw [List.getElem_append_left hlt]
        refine (h3.kept fun k hk' hl' => (hq k hk'.2.1).trans (hk k hl' hk'.2.2.2.2)).mono fun k hk' => ⟨Or.inl hk'.1, hk'.2.1, hk'.2.2.1, hk'.2.2.2.1, fun e => ?_⟩
        rcases hv k e with h4 | h4
        · exact hk'.2.2.2.2 h4
        · have := h.foot k hk'.1; omega
    · refine ⟨?_, u, ?_, ?_⟩
      · rw [List.getElem?_append_right (by omega), show 2 * L.length - cs.length = 0 by omega, List.getElem_append_right (Nat.le_refl _)]
        simp
      · rw [List.getElem?_append_right (by omega), show 2 * L.length + 1 - cs.length = 1 by omega]
        rfl
      · rw [List.getElem_append_right (Nat.le_refl _)]
        simp only [Nat.sub_self, List.getElem_cons_zero]
        refine (hu.kept fun k hk' _ => hq k (by omega)).mono fun k hk' => ⟨Or.inr ⟨hk'.1, hk'.2.1⟩, by omega, by omega, by omega, hk'.2.2⟩
  · rcases hv g e with h1 | h1
    · exact Or.inl (h.sw g h1)
    · exact Or.inr ⟨h1, (ho.lt g e).2⟩
  · rw [hz]
    rcases hk' with hk' | hk'
    · exact Nat.lt_of_lt_of_le (h.foot k hk') hs
    · exact hk'.2
end

theorem bad_of (d : Dk) (at_ : Int) (k : Nat) : badE d at_ k = if 0 ≤ at_ ∧ (0 : Int) ≤ (k : Int) ∧ (k : Int) ≤ (d.B.length : Int) - at_ then (if d.off = true then 13 else 0) else 1 := by
  unfold badE
  by_cases h : 0 ≤ at_ ∧ (0 : Int) ≤ (k : Int) ∧ (k : Int) ≤ (d.B.length : Int) - at_
  · rw [if_pos h, if_pos ⟨h.1, h.2.1, by omega, h.2.2⟩]
  · rw [if_neg h, if_neg (fun hx => h ⟨hx.1, hx.2.1, hx.2.2.2⟩)]

theorem write_end {R : Nat → Prop} {wR w W6 : World} {S S5 : Nat → Prop} {p gn gs nc sc a : Nat} {vw v : Value} {cs cs' : List Value} {d : Dk} {x : List UInt8} {ar : Bool} {ah : Int} (hr : Rep w S p gn gs nc sc d.B.length vw cs d.now d.B d.L d.off ar ah)
    (hp : ∀ k, R k → Rest S p gn gs vw k ∧ w.heap[k]? = wR.heap[k]?) (hok : d.Ok) (hb : 1 ≤ d.B.length ∧ d.B.length ≤ 4194304) (har : ArmR d ar ah) (ho : d.off = false) (ha : a + x.length ≤ d.B.length)
    (h6 : Rep W6 S5 p gn gs nc sc d.B.length v cs' (put1 d.now a x) d.B (d.L ++ [(a, x)]) d.off ar ah) (hk : Kept (Mut p gn gs vw) w W6) (hv : ∀ g, v.ownBlock = some g → vw.ownBlock = some g ∨ w.heap.size ≤ g) (h5 : ∀ k, S k → S5 k) (h5' : ∀ k, S5 k → S k ∨ w.heap.size ≤ k) :
    Calls Tryd.prog 28 #[.pointer (some ⟨p, 0, none⟩)] W6 fun y w' => y = .returned (er (stepE d)) ∧ DKr R wR w' S5 p (stepD { d with L := d.L ++ [(a, x)] }) ∧ Turn S S5 w w' := by
  have hst := step_dk (d := { d with L := d.L ++ [(a, x)] }) h6 ho har
  have hdl := stepD_L { d with L := d.L ++ [(a, x)] }
  refine hst.mono ?_
  rintro y w' ⟨rfl, ar', ah', h7, ha7, hk7⟩
  have hmm : ∀ k, Mut p gn gs v k → k < w.heap.size → Mut p gn gs vw k := fun k hm hl => by
    rcases hm with e | e | e | e
    · exact Or.inl e
    · exact Or.inr (Or.inl e)
    · exact Or.inr (Or.inr (Or.inl e))
    · rcases hv k e with h1 | h1
      · exact Or.inr (Or.inr (Or.inr h1))
      · omega
  have hms : ∀ k, Mut p gn gs vw k → S k := fun k hm => by
    rcases hm with e | e | e | e
    · rw [e]; exact hr.sp
    · rw [e]; exact hr.sn
    · rw [e]; exact hr.ss
    · exact hr.sw k e
  have hblk : ∀ k, k < w.heap.size → ¬ Mut p gn gs vw k → w'.heap[k]? = w.heap[k]? := fun k hl hn => (hk7.block k (Nat.lt_of_lt_of_le hl hk.size) (fun hm => hn (hmm k hm hl))).trans (hk.block k hl hn)
  refine ⟨rfl, ⟨gn, gs, nc, sc, v, cs', ar', ah', ?_, fun k hR => ?_, ⟨stepD_ok ?_, ?_⟩, ha7⟩, ⟨⟨hk7.os.trans hk.os, hk7.tape.trans hk.tape, hk7.output.trans hk.output, Nat.le_trans hk.size hk7.size, fun k hl hn => hblk k hl (fun hm => hn (hms k hm))⟩, h5'⟩⟩
  · rw [Dk.now, hdl.1, hdl.2]
    show Rep w' S5 p gn gs nc sc d.B.length v cs' (nowL d.B (d.L ++ [(a, x)])) d.B (d.L ++ [(a, x)]) _ ar' ah'
    rw [nowL_append]
    exact h7
  · obtain ⟨h1, h2⟩ := hp k hR
    have hl := hr.foot k h1.1
    refine ⟨⟨h5 k h1.1, h1.2.1, h1.2.2.1, h1.2.2.2.1, fun e => ?_⟩, (hblk k hl h1.not).trans h2⟩
    rcases hv k e with h3 | h3
    · exact h1.2.2.2.2 h3
    · omega
  · intro y hy
    rcases List.mem_append.1 hy with hy | hy
    · exact hok y hy
    · obtain rfl := List.mem_singleton.1 hy
      exact ha
  · rw [hdl.2]
    exact hb

set_option maxHeartbeats 4000000 in
theorem Write_any {R : Nat → Prop} {wR w : World} {S : Nat → Prop} {p : Nat} {d : Dk} (h : DKr R wR w S p d) (at_ : Int) (A : Option Addr) (k c : Nat) (x : List UInt8) (ha : inI at_) (hl : d.L.length < 100000) (hx : SlT w (Av w S) (.slice A k c) x) :
    Calls Tryd.prog 9 #[.pointer (some ⟨p, 0, none⟩), .int .i64 at_, .slice A k c] w fun r w' => ∃ S', r = .returned (er (putE d at_ x)) ∧ DKr R wR w' S' p (putD d at_ x) ∧ Turn S S' w w' := by
  have hd := h
  obtain ⟨gn, gs, nc, sc, vw, cs, ar, ah, hr, hp, ⟨hok, hb1, hb2⟩, har⟩ := h
  obtain ⟨hkx, hkc, hcm⟩ := hx.sl.len
  have hbad := bad_of d at_ x.length
  obtain ⟨-, -, -, c3, -, -, -⟩ := hr.cells
  have hkI : inI (k : Int) := by unfold inI; omega
  have HD := Lib.hid hd
  by_cases hin : 0 ≤ at_ ∧ (0 : Int) ≤ (k : Int) ∧ (k : Int) ≤ (d.B.length : Int) - at_
  · have hc := has_any hr at_ k ha hkI true (decide_eq_true hin).symm
    rw [hkx] at hin
    rw [if_pos hin] at hbad
    cases ho : d.off with
    | true =>
      rw [ho, if_pos rfl] at hbad
      have e1 : putE d at_ x = 13 := by unfold putE; rw [hbad]; rfl
      have e2 : putD d at_ x = d := by unfold putD; rw [hbad]; rfl
      rw [e1, e2]
      rw [ho] at c3
      have HC := Lib.hid hc
      clear hd hr hp hok hb1 hb2 har hkx hkc hcm hbad hin hc hkI hx ho e1 e2 ha
      go_enter Tryd.func9, Tryd.ntmps9
      go_wp2_with (go_at_call 26; go_must (refine HC.out.mono ?_; rintro y w1 ⟨rfl, rfl⟩))
      go_ret
      exact ⟨S, rfl, HD.out, Turn.refl _ _⟩
    | false =>
      obtain ⟨h1, -, h3⟩ := hin
      obtain ⟨a, rfl⟩ : ∃ a : Nat, at_ = (a : Int) := ⟨at_.toNat, by omega⟩
      rw [ho, if_neg (by simp)] at hbad
      have e1 : putE d (a : Int) x = stepE d := by unfold putE; rw [if_pos hbad]
      have e2 : putD d (a : Int) x = stepD { d with L := d.L ++ [(a, x)] } := by unfold putD; rw [if_pos hbad, Int.toNat_natCast]
      rw [e1, e2]
      have hax : a + x.length ≤ d.B.length := by omega
      obtain ⟨Aw, cw, rfl, -, -⟩ := own_form hr.rows
      obtain ⟨m, hm⟩ : ∃ m, m = d.L.length := ⟨_, rfl⟩
      obtain ⟨n, hn⟩ : ∃ n, n = d.B.length := ⟨_, rfl⟩
      have hend := fun (W6 : World) (S5 : Nat → Prop) (v : Value) (cs' : List Value) => write_end (S5 := S5) (W6 := W6) (v := v) (cs' := cs') (a := a) (x := x) hr hp hok ⟨hb1, hb2⟩ har ho hax
      obtain ⟨-, -, c2, -, -, -, -⟩ := hr.cells
      obtain ⟨i0, hi, hz0, hz1, hz2⟩ := info_parts info_w
      rw [← hm] at c2 hl
      rw [ho] at c3
      have HC := Lib.hid hc
      have HE := Lib.hid hend
      have HR := Lib.hid hr
      have HX := Lib.hid hx
      have HN := Lib.hid (And.intro hn (And.intro hm (And.intro hb2 (And.intro hax (And.intro hkx ho)))))
      have HI := Lib.hid (And.intro hi (And.intro hz0 (And.intro hz1 hz2)))
      have hC2 := Lib.hid c2
      have HPL := Lib.hid (hr.foot p hr.sp)
      have hCL := Lib.hid (CloneB_any w.drew _ A k c x hx (by omega))
      clear hd hr hp hok hb1 hb2 har hkx hkc hcm hbad hc hkI hx e1 e2 ha hend hn hm hi hz0 hz1 hz2 hax ho c2 h1 h3
      go_enter Tryd.func9, Tryd.ntmps9
      go_upto_region 5 with (go_at_call 26; go_must (refine HC.out.mono ?_; rintro y w1 ⟨rfl, rfl⟩))
      clear c3
      refine wp_region_held_drew (S := fun _ => True) (by kernel_rfl) trivial (fun hHeld => ?_)
      refine wpAnyH_take (i := 0) (oi := { dst := Option.some 19, op := Op.move (Operand.tmp 0), type := 24, pos := "disk.go:66", after := #[], guard := Option.none }) (v := .pointer (some ⟨p, 0, none⟩)) rfl (by kernel_rfl) (by kernel_rfl) (by kernel_rfl) (fun _ _ _ h => h) (Or.inl ⟨by rfl, ?_⟩) hHeld ?_
      · intro W hSw
        go_simp
      simp only [Act.put, List.setIfInBounds_toArray, List.set_cons_zero, List.set_cons_succ]
      refine wpAnyH_take (i := 1) (oi := { dst := Option.some 20, op := Op.move (Operand.tmp 0), type := 24, pos := "disk.go:66", after := #[], guard := Option.none }) (v := .pointer (some ⟨p, 0, none⟩)) rfl (by kernel_rfl) (by kernel_rfl) (by kernel_rfl) (fun _ _ _ h => h) (Or.inl ⟨by rfl, ?_⟩) hHeld ?_
      · intro W hSw
        go_simp
      simp only [Act.put, List.setIfInBounds_toArray, List.set_cons_zero, List.set_cons_succ]
      refine wpAnyH_take (i := 2) (oi := { dst := Option.some 21, op := Op.nilCheck (Operand.tmp 20), type := 0, pos := "disk.go:66", after := #[{ on := 1, ground := Ground.data }], guard := Option.none }) (v := .pointer (some ⟨p, 0, none⟩)) rfl (by kernel_rfl) (by kernel_rfl) (by kernel_rfl) (fun _ _ _ h => h) (Or.inl ⟨by rfl, ?_⟩) hHeld ?_
      · intro W hSw
        go_simp
      simp only [Act.put, List.setIfInBounds_toArray, List.set_cons_zero, List.set_cons_succ]
      refine wpAnyH_take (i := 3) (oi := { dst := Option.some 22, op := Op.fieldAddr 61 (Operand.tmp 21) 2, type := 0, pos := "disk.go:66", after := #[{ on := 2, ground := Ground.data }], guard := Option.none }) (v := .pointer (some ⟨p, 2, none⟩)) rfl (by kernel_rfl) (by kernel_rfl) (by kernel_rfl) (fun _ _ _ h => h) (Or.inl ⟨by rfl, ?_⟩) hHeld ?_
      · intro W hSw
        go_simp
      simp only [Act.put, List.setIfInBounds_toArray, List.set_cons_zero, List.set_cons_succ]
      refine wpAnyH_take (i := 5) (oi := { dst := Option.some 24, op := Op.move (Operand.tmp 1), type := 3, pos := "disk.go:66", after := #[], guard := Option.none }) (v := .int .i64 (a : Int)) rfl (by kernel_rfl) (by kernel_rfl) (by kernel_rfl) (fun _ _ _ h => h) (Or.inl ⟨by rfl, ?_⟩) hHeld ?_
      · intro W hSw
        go_simp
      simp only [Act.put, List.setIfInBounds_toArray, List.set_cons_zero, List.set_cons_succ]
      refine wpAnyH_take (i := 6) (oi := { dst := Option.some 25, op := Op.move (Operand.tmp 2), type := 22, pos := "disk.go:66", after := #[], guard := Option.none }) (v := .slice A k c) rfl (by kernel_rfl) (by kernel_rfl) (by kernel_rfl) (fun _ _ _ h => h) (Or.inl ⟨by rfl, ?_⟩) hHeld ?_
      · intro W hSw
        go_simp
      simp only [Act.put, List.setIfInBounds_toArray, List.set_cons_zero, List.set_cons_succ]
      refine wpAnyH_ready (rs := [4, 7]) (by kernel_rfl) (by simp) ?_
      refine AllReadyH.cons (o := { dst := Option.some 23, op := Op.load 59 (Operand.tmp 22), type := 59, pos := "disk.go:66", after := #[{ on := 3, ground := Ground.data }], guard := Option.none }) rfl (fun K hK => ?o1) (AllReadyH.cons (o := { dst := Option.some 26, op := Op.call { callee := Callee.value (Operand.func 27), args := #[Operand.tmp 25], argTypes := #[22] }, type := 22, pos := "disk.go:66", after := #[{ on := 6, ground := Ground.data }], guard := Option.none }) rfl (fun K hK => ?o2) AllReadyH.nil)
      case' o1 =>
        have c2 : w.drew.cell? ⟨p, 2, none⟩ = some (.slice Aw m cw) := hC2.out
        go_simp
        clear c2
        refine hK.out _ _ trivial (fun hHeld => ?_)
        clear hK K hHeld
        refine wpAnyH_ready (rs := [7]) (by kernel_rfl) (by simp) ?_
        refine AllReadyH.cons (o := { dst := Option.some 26, op := Op.call { callee := Callee.value (Operand.func 27), args := #[Operand.tmp 25], argTypes := #[22] }, type := 22, pos := "disk.go:66", after := #[{ on := 6, ground := Ground.data }], guard := Option.none }) rfl (fun K hK => ?_) AllReadyH.nil
        go_simp
        refine hCL.out.mono ?_
        rintro y w2 ⟨v1, rfl, ho1, hb2⟩
        refine hK.out _ _ trivial (fun hHeld => ?_)
        clear hK K hHeld
        obtain ⟨A1, c1, rfl, -, -⟩ := own_form ho1
        refine wpAnyH_ready (rs := [8]) (by kernel_rfl) (by simp) ?_
        refine AllReadyH.cons (o := { dst := Option.some 27, op := Op.build 65 #[(0, Operand.tmp 24), (1, Operand.tmp 26)], type := 65, pos := "disk.go:66", after := #[{ on := 5, ground := Ground.data }, { on := 7, ground := Ground.data }], guard := Option.none }) rfl (fun K hK => ?_) AllReadyH.nil
        go_simp
        refine hK.out _ _ trivial (fun hHeld => ?_)
        clear hK K hHeld
        refine wpAnyH_ready (rs := [9]) (by kernel_rfl) (by simp) ?_
        refine AllReadyH.cons (o := { dst := Option.some 28, op := Op.buildSlice 59 1 #[(0, Operand.tmp 27)], type := 59, pos := "disk.go:66", after := #[{ on := 8, ground := Ground.data }], guard := Option.none }) rfl (fun K hK => ?_) AllReadyH.nil
        go_simp
        refine hK.out _ _ trivial (fun hHeld => ?_)
        clear hK K hHeld
      case' o2 =>
        go_simp
        refine hCL.out.mono ?_
        rintro y w2 ⟨v1, rfl, ho1, hb2⟩
        refine hK.out _ _ trivial (fun hHeld => ?_)
        clear hK K hHeld
        obtain ⟨A1, c1, rfl, -, -⟩ := own_form ho1
        refine wpAnyH_ready (rs := [4, 8]) (by kernel_rfl) (by simp) ?_
        refine AllReadyH.cons (o := { dst := Option.some 23, op := Op.load 59 (Operand.tmp 22), type := 59, pos := "disk.go:66", after := #[{ on := 3, ground := Ground.data }], guard := Option.none }) rfl (fun K hK => ?p1) (AllReadyH.cons (o := { dst := Option.some 27, op := Op.build 65 #[(0, Operand.tmp 24), (1, Operand.tmp 26)], type := 65, pos := "disk.go:66", after := #[{ on := 5, ground := Ground.data }, { on := 7, ground := Ground.data }], guard := Option.none }) rfl (fun K hK => ?p2) AllReadyH.nil)
      case' p1 =>
        have c2 : w2.cell? ⟨p, 2, none⟩ = some (.slice Aw m cw) := (hb2.cell (p := ⟨p, 2, none⟩) HPL.out).trans hC2.out
        go_simp
        clear c2
        refine hK.out _ _ trivial (fun hHeld => ?_)
        clear hK K hHeld
        refine wpAnyH_ready (rs := [8]) (by kernel_rfl) (by simp) ?_
        refine AllReadyH.cons (o := { dst := Option.some 27, op := Op.build 65 #[(0, Operand.tmp 24), (1, Operand.tmp 26)], type := 65, pos := "disk.go:66", after := #[{ on := 5, ground := Ground.data }, { on := 7, ground := Ground.data }], guard := Option.none }) rfl (fun K hK => ?_) AllReadyH.nil
        go_simp
        refine hK.out _ _ trivial (fun hHeld => ?_)
        clear hK K hHeld
        refine wpAnyH_ready (rs := [9]) (by kernel_rfl) (by simp) ?_
        refine AllReadyH.cons (o := { dst := Option.some 28, op := Op.buildSlice 59 1 #[(0, Operand.tmp 27)], type := 59, pos := "disk.go:66", after := #[{ on := 8, ground := Ground.data }], guard := Option.none }) rfl (fun K hK => ?_) AllReadyH.nil
        go_simp
        refine hK.out _ _ trivial (fun hHeld => ?_)
        clear hK K hHeld
      case' p2 =>
        go_simp
        refine hK.out _ _ trivial (fun hHeld => ?_)
        clear hK K hHeld
        refine wpAnyH_ready (rs := [4, 9]) (by kernel_rfl) (by simp) ?_
        refine AllReadyH.cons (o := { dst := Option.some 23, op := Op.load 59 (Operand.tmp 22), type := 59, pos := "disk.go:66", after := #[{ on := 3, ground := Ground.data }], guard := Option.none }) rfl (fun K hK => ?q1) (AllReadyH.cons (o := { dst := Option.some 28, op := Op.buildSlice 59 1 #[(0, Operand.tmp 27)], type := 59, pos := "disk.go:66", after := #[{ on := 8, ground := Ground.data }], guard := Option.none }) rfl (fun K hK => ?q2) AllReadyH.nil)
      case' q1 =>
        have c2 : w2.cell? ⟨p, 2, none⟩ = some (.slice Aw m cw) := (hb2.cell (p := ⟨p, 2, none⟩) HPL.out).trans hC2.out
        go_simp
        clear c2
        refine hK.out _ _ trivial (fun hHeld => ?_)
        clear hK K hHeld
        refine wpAnyH_ready (rs := [9]) (by kernel_rfl) (by simp) ?_
        refine AllReadyH.cons (o := { dst := Option.some 28, op := Op.buildSlice 59 1 #[(0, Operand.tmp 27)], type := 59, pos := "disk.go:66", after := #[{ on := 8, ground := Ground.data }], guard := Option.none }) rfl (fun K hK => ?_) AllReadyH.nil
        go_simp
        refine hK.out _ _ trivial (fun hHeld => ?_)
        clear hK K hHeld
      case' q2 =>
        go_simp
        refine hK.out _ _ trivial (fun hHeld => ?_)
        clear hK K hHeld
        refine wpAnyH_ready (rs := [4]) (by kernel_rfl) (by simp) ?_
        refine AllReadyH.cons (o := { dst := Option.some 23, op := Op.load 59 (Operand.tmp 22), type := 59, pos := "disk.go:66", after := #[{ on := 3, ground := Ground.data }], guard := Option.none }) rfl (fun K hK => ?_) AllReadyH.nil
        have c2 : (w2.alloc (.cells #[.int .i64 (a : Int), .slice A1 k c1] 65)).cell? ⟨p, 2, none⟩ = some (.slice Aw m cw) := ((hb2.alloc hb2.size _).cell (p := ⟨p, 2, none⟩) HPL.out).trans hC2.out
        go_simp
        clear c2
        refine hK.out _ _ trivial (fun hHeld => ?_)
        clear hK K hHeld
      all_goals
        refine wpAnyH_ready (rs := [10]) (by kernel_rfl) (by simp) ?_
        refine AllReadyH.cons (o := { dst := Option.some 29, op := Op.call { callee := Callee.builtin Builtin.append, args := #[Operand.tmp 23, Operand.tmp 28], argTypes := #[59, 59] }, type := 59, pos := "disk.go:66", after := #[{ on := 4, ground := Ground.data }, { on := 9, ground := Ground.data }, { on := 7, ground := Ground.chain }], guard := Option.none }) rfl (fun K hK => ?_) AllReadyH.nil
        have ho1' := ho1.alloc (.cells #[.int .i64 (a : Int), .slice A1 k c1] 65)
        have hnew := heap_alloc_new w2 (.cells #[.int .i64 (a : Int), .slice A1 k c1] 65)
        have hb3 : Below w.heap.size w (w2.alloc (.cells #[.int .i64 (a : Int), .slice A1 k c1] 65)) := ((Below.refl _ _).drew.trans hb2).alloc hb2.size _
        have hz3 : (w2.alloc (.cells #[.int .i64 (a : Int), .slice A1 k c1] 65)).heap.size = w2.heap.size + 1 := World.size_alloc _ _
        generalize w2.alloc (.cells #[.int .i64 (a : Int), .slice A1 k c1] 65) = W3 at ho1' hnew hb3 hz3 ⊢
        have hsz2 : w.heap.size ≤ w2.heap.size := hb2.size
        refine step_wp rfl (wp_append_at (.tmp 23) (.tmp 28) 59 rfl 0 65 i0 _ 2 32 Tryd.underlying59 HI.out.1 HI.out.2.1 HI.out.2.2.1 HI.out.2.2.2 rfl (by omega) (.slice Aw m cw) m cs rfl (by have := (HR.out.more hb3).rows; rw [← HN.out.2.1] at this; exact this) ⟨w2.heap.size, 0, none⟩ 1 1 [.int .i64 (a : Int), .slice A1 k c1] rfl rfl ?_ ?_ (by simp only [maxLen]; omega) (by omega) (Nat.zero_le _) ?_)
        · intro j u hj
          rw [Lib.add_plain, Nat.zero_add, cell_of_row W3 w2.heap.size _ _ _ (0, 0) hnew]
          simpa using hj
        · intro u hu
          simp at hu
          rcases hu with rfl | rfl <;> rfl
        · intro v' w4 ho4 hg4 hv4
          refine hK.out _ _ trivial (fun hHeld => ?_)
          clear hK K hHeld
          obtain ⟨A4, c4, rfl, -, -⟩ := own_form ho4
          have hvl : ∀ g, (Value.slice Aw d.L.length cw).ownBlock = some g → g < w.heap.size := fun g e => HR.out.foot g (HR.out.sw g e)
          have hvm : (Value.slice Aw m cw).ownBlock = (Value.slice Aw d.L.length cw).ownBlock := by cases Aw <;> rfl
          rw [hvm] at hg4 hv4
          have hsz4 : w.heap.size ≤ w4.heap.size := Nat.le_trans hb3.size hg4.size
          have hblk : ∀ g, g < w.heap.size → (Value.slice Aw d.L.length cw).ownBlock ≠ some g → w4.heap[g]? = w.heap[g]? := fun g hl hn => (hg4.block g (Nat.lt_of_lt_of_le hl hb3.size) (fun e => hn e.symm)).trans (hb3.block g hl)
          have hv5 : ∀ g, (Value.slice A4 (m + 1) c4).ownBlock = some g → (Value.slice Aw d.L.length cw).ownBlock = some g ∨ w.heap.size ≤ g := fun g e => by
            rcases hv4 with h4 | h4
            · exact Or.inl (h4 ▸ e)
            · rw [h4] at e; injection e with e; right; omega
          have hu : SlT w4 (fun g => w.heap.size ≤ g ∧ g < w4.heap.size ∧ (Value.slice A4 (m + 1) c4).ownBlock ≠ some g) (.slice A1 k c1) x := by
            have h1 : SlT w2 (fun g => w.heap.size ≤ g ∧ g < w2.heap.size) (.slice A1 k c1) x := SlT.of_own (base := w.drew.heap.size) (e := 5) (by have := ho1; rw [HN.out.2.2.2.2.1] at this ⊢; exact this) _ (fun g e => ho1.lt g e)
            have h2 : SlT W3 (fun g => w.heap.size ≤ g ∧ g < w2.heap.size) (.slice A1 k c1) x := SlT.of_own (base := w.drew.heap.size) (e := 5) (by have := ho1'; rw [HN.out.2.2.2.2.1] at this ⊢; exact this) _ (fun g e => ho1.lt g e)
            refine (h2.kept fun g hg hl => hg4.block g hl (fun e => ?_)).mono fun g hg => ⟨hg.1, ?_, fun e => ?_⟩
            · have := hvl g e.symm; omega
            · have := hg4.size; omega
            · rcases hv4 with h4 | h4
              · have := hvl g (h4 ▸ e); omega
              · rw [h4] at e; injection e with e; omega
          have hrep := HR.out.push hsz4 hblk (v := .slice A4 (m + 1) c4) (at_ := a) (u := .slice A1 k c1) (x := x) (by have := ho4; rw [HN.out.2.1] at this ⊢; exact this) hv5 hu
          have hkp : Kept (Mut p gn gs (.slice Aw d.L.length cw)) w (w4.setCell ⟨p, 2, none⟩ (.slice A4 (m + 1) c4)) :=
            Kept.trans ⟨hg4.os.trans hb3.os, hg4.tape.trans hb3.tape, hg4.output.trans hb3.output, hsz4, fun g hl hn => hblk g hl (fun e => hn (Or.inr (Or.inr (Or.inr e))))⟩ (kept_set (Or.inl rfl) _)
          have hp4 : w4.heap[p]? = w.heap[p]? := hblk p HPL.out (fun e => (HR.out.d4 p e).1 rfl)
          have y2 : w4.cell? ⟨p, 2, none⟩ = some (.slice Aw m cw) := (World.cell?_of_block (w := w) (a := ⟨p, 2, none⟩) hp4).trans hC2.out
          have f2 : w4.frozen? ⟨p, 2, none⟩ = false := (World.frozen?_of_block (w := w) (a := ⟨p, 2, none⟩) hp4).trans (HR.out.cells.2.2.2.2.2.2 2)
          have RP := Lib.hid hrep
          have KP := Lib.hid (And.intro hkp (And.intro hv5 hsz4))
          clear ho4 hg4 hv4 hvl hvm hblk hv5 hu hrep hkp hp4 hsz4 ho1 ho1' hnew hb3 hz3 hsz2 hb2
          refine wpAnyH_ready (rs := [11]) (by kernel_rfl) (by simp) ?_
          refine AllReadyH.cons (o := { dst := Option.some 30, op := Op.nilCheck (Operand.tmp 19), type := 0, pos := "disk.go:66", after := #[{ on := 0, ground := Ground.data }, { on := 0, ground := Ground.phase }, { on := 1, ground := Ground.phase }, { on := 2, ground := Ground.phase }, { on := 3, ground := Ground.phase }, { on := 4, ground := Ground.phase }, { on := 5, ground := Ground.phase }, { on := 6, ground := Ground.phase }, { on := 7, ground := Ground.phase }, { on := 8, ground := Ground.phase }, { on := 9, ground := Ground.phase }, { on := 10, ground := Ground.phase }], guard := Option.none }) rfl (fun K hK => ?_) AllReadyH.nil
          go_simp
          refine hK.out _ _ trivial (fun hHeld => ?_)
          clear hK K hHeld
          refine wpAnyH_ready (rs := [12]) (by kernel_rfl) (by simp) ?_
          refine AllReadyH.cons (o := { dst := Option.some 31, op := Op.fieldAddr 61 (Operand.tmp 30) 2, type := 0, pos := "disk.go:66", after := #[{ on := 11, ground := Ground.data }, { on := 0, ground := Ground.phase }, { on := 1, ground := Ground.phase }, { on := 2, ground := Ground.phase }, { on := 3, ground := Ground.phase }, { on := 4, ground := Ground.phase }, { on := 5, ground := Ground.phase }, { on := 6, ground := Ground.phase }, { on := 7, ground := Ground.phase }, { on := 8, ground := Ground.phase }, { on := 9, ground := Ground.phase }, { on := 10, ground := Ground.phase }], guard := Option.none }) rfl (fun K hK => ?_) AllReadyH.nil
          go_simp
          refine hK.out _ _ trivial (fun hHeld => ?_)
          clear hK K hHeld
          refine wpAnyH_ready (rs := [13]) (by kernel_rfl) (by simp) ?_
          refine AllReadyH.cons (o := { dst := Option.none, op := Op.store 59 (Operand.tmp 31) (Operand.tmp 29), type := 0, pos := "disk.go:66", after := #[{ on := 12, ground := Ground.data }, { on := 10, ground := Ground.data }, { on := 10, ground := Ground.chain }, { on := 0, ground := Ground.phase }, { on := 1, ground := Ground.phase }, { on := 2, ground := Ground.phase }, { on := 3, ground := Ground.phase }, { on := 4, ground := Ground.phase }, { on := 5, ground := Ground.phase }, { on := 6, ground := Ground.phase }, { on := 7, ground := Ground.phase }, { on := 8, ground := Ground.phase }, { on := 9, ground := Ground.phase }, { on := 10, ground := Ground.phase }], guard := Option.none }) rfl (fun K hK => ?_) AllReadyH.nil
          go_simp
          refine hK.out _ _ trivial (fun hHeld => ?_)
          clear hK K hHeld y2 f2
          refine wpAnyH_done (by kernel_rfl) ?_ _
          have hx5 : SlT (w4.setCell ⟨p, 2, none⟩ (.slice A4 (m + 1) c4)) (Av w S) (.slice A k c) x := HX.out.kept fun g hg hl => KP.out.1.block g hl (fun hm => hg.2 (by
            rcases hm with e | e | e | e
            · rw [e]; exact HR.out.sp
            · rw [e]; exact HR.out.sn
            · rw [e]; exact HR.out.ss
            · exact HR.out.sw g e))
          generalize w4.setCell ⟨p, 2, none⟩ (.slice A4 (m + 1) c4) = W5 at RP KP hx5 ⊢
          obtain ⟨c0, -, -, -, -, -, -⟩ := RP.out.cells
          rw [← HN.out.1] at c0
          have hnl := HN.out.1
          have hcap := (own_cap RP.out.now)
          obtain ⟨hnn, hcn⟩ := hcap
          have hax : a + k ≤ n := by have := HN.out.2.2.2.1; have := HN.out.2.2.2.2.1; omega
          have hal : a ≤ n := by omega
          have HSRC := Lib.hid (sl_src (w' := W5) hx5 HN.out.2.2.2.2.1 (fun _ _ => rfl))
          have hnc : n ≤ nc := by omega
          have fin2 : ∀ (W6 : World), W6.ownsRow 0 5 1 (.slice (some ⟨gn, 0, none⟩) n nc) n (splice (Lib.byteCells d.now) a (Lib.byteCells x)) → W5.grownBy W6 (some gn) →
              Calls Tryd.prog 28 #[.pointer (some ⟨p, 0, none⟩)] W6 fun y w' => y = .returned (er (stepE d)) ∧ DKr R wR w' (fun g => S g ∨ (w.heap.size ≤ g ∧ g < w4.heap.size)) p (stepD { d with L := d.L ++ [(a, x)] }) ∧ Turn S (fun g => S g ∨ (w.heap.size ≤ g ∧ g < w4.heap.size)) w w' := by
            intro W6 ho hg
            unfold Lib.byteCells at ho
            rw [splice_put, HN.out.1] at ho
            refine HE.out W6 _ _ _ (RP.out.putNow ho hg) (KP.out.1.trans (kept_grown (Or.inr (Or.inl rfl)) hg)) KP.out.2.1 (fun g => Or.inl) (fun g hx => ?_)
            rcases hx with hx | hx
            · exact Or.inl hx
            · exact Or.inr hx.1
          have FIN := Lib.hid fin2
          have HNW := Lib.hid RP.out.now
          rw [← HN.out.1] at HNW
          clear fin2 hnl hx5 RP KP
          by_cases hca : nc = a
          all_goals
            go_upto_region 7 with (with_reducible refine wpList_copy_rowE rfl (.tmp 37) (.tmp 38) 22 22 rfl 5 Tryd.underlying22 size_u8 0 gn n nc (Lib.byteCells d.now) HNW.out _ _ _ _ _ _ rfl rfl a (Lib.byteCells x) ?_ ?_ ?_ ?_ ?_)
            · rw [byteCells_len, ← HN.out.2.2.2.2.1]; exact (Nat.min_eq_left (by omega)).symm
            · intro h0
              have h0' : 0 < k := by rw [byteCells_len, ← HN.out.2.2.2.2.1] at h0; exact h0
              obtain ⟨ad, e, hc'⟩ := HSRC.out h0
              first
                | (exfalso; omega)
                | exact ⟨rfl, ad, e, hc'⟩
                | exact ⟨ad, e, hc'⟩
            · rw [byteCells_len, ← HN.out.2.2.2.2.1]; exact hax
            · exact byteCells_one _
            · intro W6 ho hg
              have HST := Lib.hid (FIN.out W6 (by first | exact ho | (rw [hca]; exact ho)) hg)
              clear ho hg
              go_wp2_with (go_at_call 28; go_must (refine HST.out.mono ?_; rintro y w7 ⟨rfl, h7⟩; have H7 := Lib.hid h7; clear h7))
              go_ret
              exact ⟨_, rfl, H7.out.1, H7.out.2⟩
  · have hc := has_any hr at_ k ha hkI false (decide_eq_false hin).symm
    rw [hkx] at hin
    rw [if_neg hin] at hbad
    have e1 : putE d at_ x = 1 := by unfold putE; rw [hbad]; rfl
    have e2 : putD d at_ x = d := by unfold putD; rw [hbad]; rfl
    rw [e1, e2]
    have HC := Lib.hid hc
    clear hd hr hp hok hb1 hb2 har hkx hkc hcm hbad hin hc hkI hx e1 e2 ha c3
    go_enter Tryd.func9, Tryd.ntmps9
    go_wp2_with (go_at_call 26; go_must (refine HC.out.mono ?_; rintro y w1 ⟨rfl, rfl⟩))
    go_ret
    exact ⟨S, rfl, HD.out, Turn.refl _ _⟩

end Go.Proofs.YthcikgbnenfjpaaDoor.pk
