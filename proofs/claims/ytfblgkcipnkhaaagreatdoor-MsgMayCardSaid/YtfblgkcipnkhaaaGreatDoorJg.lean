/-
  Texts of the proof, joined: UnM, WiM, LyM, EnM, Sm1, Sm2, Sm3.
-/
import Derived.Test.YtfblgkcipnkhaaaGreatDoorJf
import Derived.RegionTactic
import Derived.Laws.Cover3
import Derived.Stop.BytesEq

/-
  The program's own look at a message's entries: which cannot be read again.
-/
namespace Go.Proofs.YtfblgkcipnkhaaaGreatDoor.pk
open Go Go.RowKit
set_option maxRecDepth 100000

theorem lUint_inj {a b : Nat} {x y : List UInt8} (ha : a < 18446744073709551616) (hb : b < 18446744073709551616) (h : lUint a ++ x = lUint b ++ y) : a = b ∧ x = y := by
  have h1 : rUint 18446744073709551616 (lUint a ++ x, 0) = rUint 18446744073709551616 (lUint b ++ y, 0) := by rw [h]
  rw [rUint_lay ha (by omega), rUint_lay hb (by omega)] at h1
  simp only [Prod.mk.injEq] at h1
  exact ⟨h1.2, h1.1.1⟩
theorem lBytes_inj {a b : List UInt8} (ha : a.length < 18446744073709551616) (hb : b.length < 18446744073709551616) (h : lBytes a = lBytes b) : a = b := by
  have h1 : rBytes 98 18446744073709551616 (lBytes a ++ [], 0) = rBytes 98 18446744073709551616 (lBytes b ++ [], 0) := by rw [h]
  rw [rBytes_lay ha (by omega), rBytes_lay hb (by omega)] at h1
  simp only [Prod.mk.injEq] at h1
  exact h1.2
theorem encE_inj {a b : En} (ha : a.data.length < 18446744073709551616) (hb : b.data.length < 18446744073709551616) (h : encE a = encE b) : u64 a.index = u64 b.index ∧ u64 a.term = u64 b.term ∧ u64 a.kind = u64 b.kind ∧ a.data = b.data := by
  unfold encE at h
  simp only [List.append_assoc] at h
  obtain ⟨h1, h⟩ := lUint_inj (u64_lt _) (u64_lt _) h
  obtain ⟨h2, h⟩ := lUint_inj (u64_lt _) (u64_lt _) h
  obtain ⟨h3, h⟩ := lUint_inj (u64_lt _) (u64_lt _) h
  exact ⟨h1, h2, h3, lBytes_inj ha hb h⟩
theorem decE_no {e : En} (hok : e.ok) (hl : e.data.length < 18446744073709551616) (h : fitM e = false) : (decE (encE e)).2 ≠ 0 := by
  intro h0
  obtain ⟨h1, h2⟩ := decE_inv h0
  generalize (decE (encE e)).1 = x at h1 h2
  have hx := fitM_iff.1 h2
  obtain ⟨g1, g2, g3, g4⟩ := encE_inj hl (by omega) h1
  unfold En.ok inI at hok
  unfold u64 at g1 g2 g3
  have hf := fitM_false.1 h
  have q1 : e.index = x.index := by omega
  have q2 : e.term = x.term := by omega
  have q3 : e.kind = x.kind := by omega
  rw [q1, q2, q3, g4] at hf
  exact hf hx
theorem decE_kind (b : List UInt8) : (decE b).2 = 0 ∨ (decE b).2 = 3 := by
  unfold decE
  simp only
  split
  · exact Or.inr rfl
  · exact Or.inl rfl

set_option maxHeartbeats 4000000 in
theorem unread_any (e : En) (A : Option Addr) (n c : Nat) (w : World) (hs : StdP w) (h : Bys w (.slice A n c) e.data) (hok : e.ok) (hn : n ≤ 100000) (b : Bool) (hb : b = !fitM e) :
    Calls Tryz.prog 72 #[.agg #[.int .i64 e.index, .int .i64 e.term, .int .i64 e.kind, .slice A n c]] w fun y w' => y = .returned (.bool b) ∧ Below w.heap.size w w' := by
  obtain ⟨W1, g, hW1, hg, hb1, hq, hsz⟩ := one_box w (.cells #[.int .i64 e.index, .int .i64 e.term, .int .i64 e.kind, .slice A n c] 57)
  have hln := h.len_
  have HW := Lib.hid (And.intro hW1 hg)
  have HE := Lib.hid (And.intro hb1 (hs.more hb1))
  obtain ⟨x0, x1, x2, x3⟩ := cells4 hq
  obtain ⟨k, hk⟩ : ∃ k, k = (encE e).length := ⟨_, rfl⟩
  have hkl : k ≤ 140737488355328 := by have := encE_len (e := e) (by omega); omega
  have CE := Lib.hid (EEnc_any e A n c W1 ⟨(hs.more hb1).tab, (hs.more hb1).std.size⟩ (h.below hb1) hn k hk)
  rcases hd : decE (encE e) with ⟨e1, f⟩
  have CD := Lib.hid fun A c W hs h => EDec_any A k c (encE e) W hs h hkl e1 f hd e1.data.length rfl
  have hf : (f = 0 ∧ b = false) ∨ (f = 3 ∧ b = true) := by
    cases hfit : fitM e with
    | true =>
      have := decE_lay hfit
      rw [hd] at this
      injection this with _ t2
      exact Or.inl ⟨t2, by rw [hb, hfit]; rfl⟩
    | false =>
      have h1 := decE_no hok (by omega) hfit
      have h2 := decE_kind (encE e)
      rw [hd] at h1 h2
      simp only at h1 h2
      exact Or.inr ⟨by omega, by rw [hb, hfit]; rfl⟩
  clear hW1 hg hb1 hq hsz h hln hk hkl hd hb hs hok hn
  rcases hf with ⟨rfl, rfl⟩ | ⟨rfl, rfl⟩
  · rw [er_zero] at CD
    go_enter Tryz.func72, Tryz.ntmps72
    go_upto_region 1 with fail
    rw [← HW.out.1, ← HW.out.2]
    go_wp2_with (first
      | (go_at_call 46; go_must (refine CE.out.mono ?_; rintro y w1 ⟨A1, c1, rfl, hi, hb⟩; have H1 := Lib.hid (And.intro hi hb); clear hi hb))
      | (go_at_call 30; go_must (refine (CD.out A1 c1 w1 (HE.out.2.more H1.out.2) H1.out.1).mono ?_; rintro y w2 ⟨A2, c2, rfl, -, hb⟩; have H2 := Lib.hid hb; clear hb)))
    go_ret
    have b1 := HE.out.1.trans (H1.out.2.mono HE.out.1.size)
    have b2 := b1.trans (H2.out.mono b1.size)
    exact ⟨rfl, b2.alloc b2.size _⟩
  · rw [er_ne (by decide)] at CD
    go_enter Tryz.func72, Tryz.ntmps72
    go_upto_region 1 with fail
    rw [← HW.out.1, ← HW.out.2]
    go_wp2_with (first
      | (go_at_call 46; go_must (refine CE.out.mono ?_; rintro y w1 ⟨A1, c1, rfl, hi, hb⟩; have H1 := Lib.hid (And.intro hi hb); clear hi hb))
      | (go_at_call 30; go_must (refine (CD.out A1 c1 w1 (HE.out.2.more H1.out.2) H1.out.1).mono ?_; rintro y w2 ⟨A2, c2, rfl, -, hb⟩; have H2 := Lib.hid hb; clear hb)))
    go_ret
    have b1 := HE.out.1.trans (H1.out.2.mono HE.out.1.size)
    have b2 := b1.trans (H2.out.mono b1.size)
    exact ⟨rfl, b2.alloc b2.size _⟩

/-- Where the first entry stands that may not be; -1: none does. -/
structure BadAt (l : List En) (r : Int) : Prop where
  none_ : l.all fitM = true → r = -1
  some_ : l.all fitM = false → 0 ≤ r
  at_ : ∀ j (hj : j < l.length), (∀ e ∈ l.take j, fitM e = true) → fitM l[j] = false → r = (j : Int)
theorem badAt_ex : ∀ l : List En, ∃ r, BadAt l r ∧ -1 ≤ r
  | [] => ⟨-1, ⟨fun _ => rfl, fun h => by simp at h, fun j hj => by simp at hj⟩, by omega⟩
  | x :: l => by
    obtain ⟨r, h, hr⟩ := badAt_ex l
    cases hx : fitM x with
    | false =>
      refine ⟨0, ⟨fun h0 => by simp [hx] at h0, fun _ => by omega, fun j hj ht _ => ?_⟩, by omega⟩
      match j with
      | 0 => rfl
      | j + 1 => have := ht x (by simp); rw [hx] at this; cases this
    | true =>
      have hall : (x :: l).all fitM = l.all fitM := by simp [hx]
      cases hl : l.all fitM with
      | true => refine ⟨-1, ⟨fun _ => rfl, fun h0 => (by rw [hall, hl] at h0; cases h0), fun j hj ht hf => ?_⟩, by omega⟩
                rw [List.all_eq_true] at hl
                match j with
                | 0 => simp only [List.getElem_cons_zero] at hf; rw [hx] at hf; cases hf
                | j + 1 => simp only [List.getElem_cons_succ] at hf; rw [hl _ (List.getElem_mem _)] at hf; cases hf
      | false =>
        refine ⟨r + 1, ⟨fun h0 => (by rw [hall, hl] at h0; cases h0), fun _ => by have := h.some_ hl; omega, fun j hj ht hf => ?_⟩, by omega⟩
        match j with
        | 0 => simp only [List.getElem_cons_zero] at hf; rw [hx] at hf; cases hf
        | j + 1 =>
          simp only [List.getElem_cons_succ] at hf
          have := h.at_ j (by simpa using hj) (fun e he => ht e (by simp [he])) hf
          rw [this]
          rfl

set_option maxHeartbeats 4000000 in
theorem IdxE_any (A : Option Addr) (n c : Nat) (l : List En) (w : World) (hs : StdP w) (h : Ents w (.slice A n c) l) (hsm : SmallE 1000000 25663 l) (r : Int) (hr : BadAt l r) :
    Calls Tryz.prog 91 #[.slice A n c, .func (.func 72) #[] #[]] w fun y w' => y = .returned (.int .i64 r) ∧ Below w.heap.size w w' := by
  have eg : ∀ args w, (callFunc 72 args).run Tryz.prog w = .ok (.enter 72 args) w := enters_of Tryz.func72 (by kernel_rfl) rfl
  obtain ⟨hn, hnc, hcm⟩ := h.len_
  have in1 : (n : Int) ≤ 9223372036854775807 := by omega
  have HH := Lib.hid (And.intro h (And.intro hn (And.intro hr (And.intro hsm hs))))
  clear h hn hnc hcm hr hsm hs
  go_enter Tryz.func91, Tryz.ntmps91
  go_wp2_with fail
  go_loopw [8] (fun ii wr => ∃ (j : Nat), j ≤ n ∧ ii = .int .i64 (j : Int) ∧ Hid (∀ e ∈ l.take j, fitM e = true) ∧ Below w.heap.size w wr) (fun ii _ => n - (intOf ii).toNat)
  case atStart => exact ⟨0, Nat.zero_le _, rfl, Lib.hid (by simp), Below.refl _ _⟩
  case round =>
    obtain ⟨j, hj, rfl, HT, hbw⟩ := hrel
    by_cases hlt : j < n
    · have ii : (j : Int) < (n : Int) := by omega
      have hjl : j < l.length := by have := HH.out.2.1; omega
      obtain ⟨bk, off, Ad, cd, rfl, hbb, hok, q0, q1, q2, q3, hdat⟩ := (HH.out.1.below hbw).at_ j hjl
      have hsm := HH.out.2.2.2.1.2 _ (List.getElem_mem hjl)
      have hat := HH.out.2.2.1.at_ j hjl HT.out
      have htk : ∀ e ∈ l.take (j + 1), fitM e = true ↔ (e ∈ l.take j ∨ e = l[j]) → fitM e = true := fun e he => ⟨fun h _ => h, fun h => h (by rw [List.take_succ_eq_append_getElem hjl] at he; rcases List.mem_append.mp he with h1 | h1; exact Or.inl h1; exact Or.inr (List.mem_singleton.mp h1))⟩
      obtain ⟨e, he⟩ : ∃ e, e = l[j] := ⟨_, rfl⟩
      rw [← he] at hok q0 q1 q2 q3 hdat hsm hat
      obtain ⟨m, hm⟩ : ∃ m, m = e.data.length := ⟨_, rfl⟩
      rw [← hm] at q3 hdat hsm
      have HU := Lib.hid fun b hb => unread_any e Ad m cd wr (HH.out.2.2.2.2.more hbw) hdat hok (by omega) b hb
      have HB := Lib.hid hbw
      cases hf : fitM e with
      | false =>
        have hrj := Lib.hid (hat hf)
        have HU1 := Lib.hid (HU.out true (by rw [hf]; rfl))
        clear hat htk hdat hsm hok hm he hbw HU hbb hf
        go_wp2_with (go_at_fn 72; refine HU1.out.mono ?_; rintro y w' ⟨rfl, hb'⟩; have H1 := Lib.hid hb'; clear hb')
        go_ret
        exact ⟨by rw [hrj.out]; rfl, HB.out.trans (H1.out.mono HB.out.size)⟩
      | true =>
        have HT2 : Hid (∀ e ∈ l.take (j + 1), fitM e = true) := Lib.hid fun x hx => (htk x hx).2 fun h => by
          rcases h with h | h
          · exact HT.out x h
          · rw [h, ← he]; exact hf
        have HU1 := Lib.hid (HU.out false (by rw [hf]; rfl))
        clear hat htk hdat hsm hok hm he hbw HU hbb hf
        go_wp2_with (go_at_fn 72; refine HU1.out.mono ?_; rintro y w' ⟨rfl, hb'⟩; have H1 := Lib.hid hb'; clear hb')
        go_roundw
        case rel => exact ⟨j + 1, by omega, by go_num, HT2, HB.out.trans (H1.out.mono HB.out.size)⟩
        case measure => simp [intOf]; omega
    · obtain rfl : j = n := by omega
      have ii : ¬ (j : Int) < (j : Int) := by omega
      have hm1 : r = -1 := HH.out.2.2.1.none_ (List.all_eq_true.2 fun e he => HT.out e (by rw [List.take_of_length_le (by have := HH.out.2.1; omega)]; exact he))
      have HM := Lib.hid hm1
      clear hm1
      go_wp2_with fail
      go_ret
      exact ⟨by rw [HM.out]; rfl, hbw⟩

set_option maxHeartbeats 2000000 in
theorem ContE_any (A : Option Addr) (n c : Nat) (l : List En) (w : World) (hs : StdP w) (h : Ents w (.slice A n c) l) (hsm : SmallE 1000000 25663 l) (b : Bool) (hb : b = !l.all fitM) :
    Calls Tryz.prog 71 #[.slice A n c, .func (.func 72) #[] #[]] w fun y w' => y = .returned (.bool b) ∧ Below w.heap.size w w' := by
  obtain ⟨r, hr, hr1⟩ := badAt_ex l
  have CI := Lib.hid (IdxE_any A n c l w hs h hsm r hr)
  have hcase : (r = -1 ∧ b = false) ∨ (0 ≤ r ∧ b = true) := by
    cases hl : l.all fitM with
    | true => exact Or.inl ⟨hr.none_ hl, by rw [hb, hl]; rfl⟩
    | false => exact Or.inr ⟨hr.some_ hl, by rw [hb, hl]; rfl⟩
  clear hs h hsm hb hr
  rcases hcase with ⟨rfl, rfl⟩ | ⟨h0, rfl⟩
  all_goals
    go_enter Tryz.func71, Tryz.ntmps71
    go_wp2_with (go_at_call 91; go_must (refine CI.out.mono ?_; rintro y w1 ⟨rfl, hb⟩; have H1 := Lib.hid hb; clear hb))
    go_ret
    exact ⟨rfl, H1.out⟩

def listsM (m : Ms) : Bool := decide (m.data.length ≤ 4096) && decide (m.ents.length ≤ 64) && m.ents.all fitM
set_option maxHeartbeats 4000000 in
theorem lists_any (m : Ms) (Ad : Option Addr) (nd cd : Nat) (Ae : Option Addr) (ne ce : Nat) (w : World) (hs : StdP w) (h : InM m Ad nd cd Ae ne ce w) (hse : SmallE 1000000 25663 m.ents) (b : Bool) (hb : b = listsM m) :
    Calls Tryz.prog 39 #[.agg #[.int .i64 m.kind, .int .i64 m.frm, .int .i64 m.to, .int .i64 m.term, .int .i64 m.index, .int .i64 m.logTerm, .int .i64 m.commit, .int .i64 m.round, .bool m.ok, .int .i64 m.off, .slice Ad nd cd, .slice Ae ne ce]] w fun y w' => y = .returned (.bool b) ∧ Below w.heap.size w w' := by
  have hnd := h.data.len_
  have hne := h.ents.len_.1
  have in1 : (nd : Int) ≤ 9223372036854775807 := by obtain ⟨A', c', hv, h1, h2⟩ := h.data.form; injection hv with _ e2 e3; omega
  have in2 : (ne : Int) ≤ 9223372036854775807 := by have := h.ents.len_; omega
  obtain ⟨W1, g, hW1, hg, hb1, hq, hsz⟩ := one_box w (.cells #[.int .i64 m.kind, .int .i64 m.frm, .int .i64 m.to, .int .i64 m.term, .int .i64 m.index, .int .i64 m.logTerm, .int .i64 m.commit, .int .i64 m.round, .bool m.ok, .int .i64 m.off, .slice Ad nd cd, .slice Ae ne ce] 30)
  have HW := Lib.hid (And.intro hW1 hg)
  have HE := Lib.hid hb1
  obtain ⟨z0, z1, z2, z3, z4, z5, z6, z7, z8, z9, z10, z11⟩ := cells12 hq
  have CC := Lib.hid fun b hb => ContE_any Ae ne ce m.ents W1 (hs.more hb1) (h.ents.below hb1) hse b hb
  have hcase : (¬ (nd : Int) ≤ 4096 ∧ b = false) ∨ ((nd : Int) ≤ 4096 ∧ ¬ (ne : Int) ≤ 64 ∧ b = false) ∨ ((nd : Int) ≤ 4096 ∧ (ne : Int) ≤ 64 ∧ b = m.ents.all fitM) := by
    unfold listsM at hb
    by_cases h1 : (nd : Int) ≤ 4096
    · rw [decide_eq_true (show m.data.length ≤ 4096 by omega), Bool.true_and] at hb
      by_cases h2 : (ne : Int) ≤ 64
      · rw [decide_eq_true (show m.ents.length ≤ 64 by omega), Bool.true_and] at hb
        exact Or.inr (Or.inr ⟨h1, h2, hb⟩)
      · rw [decide_eq_false (show ¬ m.ents.length ≤ 64 by omega), Bool.false_and] at hb
        exact Or.inr (Or.inl ⟨h1, h2, hb⟩)
    · rw [decide_eq_false (show ¬ m.data.length ≤ 4096 by omega), Bool.false_and, Bool.false_and] at hb
      exact Or.inl ⟨h1, hb⟩
  clear hW1 hg hb1 hq hsz hs h hse hb hnd hne
  rcases hcase with ⟨h1, rfl⟩ | ⟨h1, h2, rfl⟩ | ⟨h1, h2, hb⟩
  · go_enter Tryz.func39, Tryz.ntmps39
    go_upto_region 1 with fail
    rw [← HW.out.1, ← HW.out.2]
    go_wp2_with fail
    go_ret
    exact ⟨rfl, HE.out⟩
  · go_enter Tryz.func39, Tryz.ntmps39
    go_upto_region 1 with fail
    rw [← HW.out.1, ← HW.out.2]
    go_wp2_with fail
    go_ret
    exact ⟨rfl, HE.out⟩
  · have CC1 := Lib.hid (CC.out (!b) (by rw [hb]))
    clear hb CC
    cases b
    all_goals
      go_enter Tryz.func39, Tryz.ntmps39
      go_upto_region 1 with fail
      rw [← HW.out.1, ← HW.out.2]
      go_wp2_with (go_at_call 71; go_must (refine CC1.out.mono ?_; rintro y w1 ⟨rfl, hb⟩; have H1 := Lib.hid hb; clear hb))
      go_ret
      exact ⟨rfl, HE.out.trans (H1.out.mono HE.out.size)⟩

end Go.Proofs.YtfblgkcipnkhaaaGreatDoor.pk

/-
  The program's own look at a message's numbers; its Check.
-/
namespace Go.Proofs.YtfblgkcipnkhaaaGreatDoor.pk
open Go Go.RowKit
set_option maxRecDepth 100000

theorem Ints.lit {w : World} {g t n : Nat} {zs : List Int} {cs : Array Value} (hg : w.heap[g]? = some (.cells cs t (0, 0))) (hc : cs = (zs.map (Value.int .i64)).toArray) (hn : n = zs.length) (hm : n ≤ 1000000) (hi : ∀ z ∈ zs, inI z) : Ints w (.slice (some ⟨g, 0, none⟩) n n) zs := by
  subst hc; subst hn
  refine ⟨?_, hi⟩
  have := RowT.lit (w := w) (sz := 1) (n := zs.length) hg (by simp) (by omega)
  obtain ⟨hl, A, c, hv, h1, h2, h3⟩ := this
  refine ⟨hl, A, c, hv, h1, h2, ?_⟩
  rcases h3 with h3 | ⟨b, off, hb, _, hcell⟩
  · exact Or.inl h3
  · injection hv with e1 e2 e3
    have hgb : b = g := by rw [← e1] at hb; injection hb with hb; injection hb with hb; exact hb.symm
    exact Or.inr ⟨b, off, hb, by rw [hgb]; exact obj_lt hg, hcell⟩

theorem Below.box {a w w' : World} {o : Obj} (h : Below a.heap.size a w) (hb : Below (w.alloc o).heap.size (w.alloc o) w') : Below a.heap.size a w' :=
  h.trans (((below_alloc w o).mono h.size).trans (hb.mono (by rw [World.size_alloc]; have := h.size; omega)))

set_option maxHeartbeats 2000000 in
theorem beyond_any (n lo hi : Int) (gl gm : Nat) (w : World) (h0 : w.cell? ⟨gl, 0, none⟩ = some (.int .i64 lo)) (h1 : w.cell? ⟨gm, 0, none⟩ = some (.int .i64 hi)) (b : Bool) (hb : b = !rg n lo hi) :
    Calls Tryz.prog 89 #[.int .i64 n, .pointer (some ⟨gl, 0, none⟩), .pointer (some ⟨gm, 0, none⟩)] w fun y w' => y = .returned (.bool b) ∧ w = w' := by
  have hcase : (n < lo ∧ b = true) ∨ (¬ n < lo ∧ hi < n ∧ b = true) ∨ (¬ n < lo ∧ ¬ hi < n ∧ b = false) := by
    cases hr : rg n lo hi with
    | true => have := rg_iff.1 hr; exact Or.inr (Or.inr ⟨by omega, by omega, by rw [hb, hr]; rfl⟩)
    | false =>
      have := rg_false.1 hr
      by_cases h : n < lo
      · exact Or.inl ⟨h, by rw [hb, hr]; rfl⟩
      · exact Or.inr (Or.inl ⟨h, by omega, by rw [hb, hr]; rfl⟩)
  clear hb
  rcases hcase with ⟨c1, rfl⟩ | ⟨c1, c2, rfl⟩ | ⟨c1, c2, rfl⟩
  all_goals
    go_enter Tryz.func89, Tryz.ntmps89
    go_wp2_with fail
    go_ret
    exact ⟨rfl, rfl⟩

/-- Where the first number stands that is not from lo to hi; -1: none does. -/
structure BadI (lo hi : Int) (l : List Int) (r : Int) : Prop where
  none_ : l.all (fun z => rg z lo hi) = true → r = -1
  some_ : l.all (fun z => rg z lo hi) = false → 0 ≤ r
  at_ : ∀ j (hj : j < l.length), (∀ e ∈ l.take j, rg e lo hi = true) → rg l[j] lo hi = false → r = (j : Int)
theorem badI_ex (lo hi : Int) : ∀ l : List Int, ∃ r, BadI lo hi l r
  | [] => ⟨-1, ⟨fun _ => rfl, fun h => by simp at h, fun j hj => by simp at hj⟩⟩
  | x :: l => by
    obtain ⟨r, h⟩ := badI_ex lo hi l
    cases hx : rg x lo hi with
    | false =>
      refine ⟨0, ⟨fun h0 => by simp [hx] at h0, fun _ => by omega, fun j hj ht _ => ?_⟩⟩
      match j with
      | 0 => rfl
      | j + 1 => have := ht x (by simp); rw [hx] at this; cases this
    | true =>
      have hall : (x :: l).all (fun z => rg z lo hi) = l.all (fun z => rg z lo hi) := by simp [hx]
      cases hl : l.all (fun z => rg z lo hi) with
      | true =>
        refine ⟨-1, ⟨fun _ => rfl, fun h0 => (by rw [hall, hl] at h0; cases h0), fun j hj ht hf => ?_⟩⟩
        rw [List.all_eq_true] at hl
        match j with
        | 0 => simp only [List.getElem_cons_zero] at hf; rw [hx] at hf; cases hf
        | j + 1 => simp only [List.getElem_cons_succ] at hf; rw [hl _ (List.getElem_mem _)] at hf; cases hf
      | false =>
        refine ⟨r + 1, ⟨fun h0 => (by rw [hall, hl] at h0; cases h0), fun _ => by have := h.some_ hl; omega, fun j hj ht hf => ?_⟩⟩
        match j with
        | 0 => simp only [List.getElem_cons_zero] at hf; rw [hx] at hf; cases hf
        | j + 1 =>
          simp only [List.getElem_cons_succ] at hf
          have := h.at_ j (by simpa using hj) (fun e he => ht e (by simp [he])) hf
          rw [this]
          rfl

set_option maxHeartbeats 4000000 in
theorem IdxI_any (lo hi : Int) (gl gm : Nat) (A : Option Addr) (n c : Nat) (l : List Int) (w : World) (h0 : w.cell? ⟨gl, 0, none⟩ = some (.int .i64 lo)) (h1 : w.cell? ⟨gm, 0, none⟩ = some (.int .i64 hi)) (h : Ints w (.slice A n c) l) (r : Int) (hr : BadI lo hi l r) :
    Calls Tryz.prog 100 #[.slice A n c, .func (.func 89) #[] #[.pointer (some ⟨gl, 0, none⟩), .pointer (some ⟨gm, 0, none⟩)]] w fun y w' => y = .returned (.int .i64 r) ∧ w = w' := by
  have eg : ∀ args w, (callFunc 89 args).run Tryz.prog w = .ok (.enter 89 args) w := enters_of Tryz.func89 (by kernel_rfl) rfl
  obtain ⟨hn, hnc, hcm, hcell⟩ := h.at_
  have in1 : (n : Int) ≤ 9223372036854775807 := by omega
  have HH := Lib.hid (And.intro hn (And.intro hr hcell))
  have HB := Lib.hid fun z b hb => beyond_any z lo hi gl gm w h0 h1 b hb
  clear h hn hnc hcm hr hcell h0 h1
  go_enter Tryz.func100, Tryz.ntmps100
  go_wp2_with fail
  go_loopw [8] (fun ii wr => ∃ (j : Nat), j ≤ n ∧ ii = .int .i64 (j : Int) ∧ Hid (∀ e ∈ l.take j, rg e lo hi = true) ∧ w = wr) (fun ii _ => n - (intOf ii).toNat)
  case atStart => exact ⟨0, Nat.zero_le _, rfl, Lib.hid (by simp), rfl⟩
  case round =>
    obtain ⟨j, hj, rfl, HT, rfl⟩ := hrel
    by_cases hlt : j < n
    · have ii : (j : Int) < (n : Int) := by omega
      have hjl : j < l.length := by have := HH.out.1; omega
      obtain ⟨b, off, rfl, hb, hc⟩ := HH.out.2.2 (by omega)
      have hcj := hc j hlt
      simp only [List.getD, List.getElem?_eq_getElem hjl, Option.getD_some] at hcj
      have hat := HH.out.2.1.at_ j hjl HT.out
      have htk : ∀ e ∈ l.take (j + 1), (e ∈ l.take j ∨ e = l[j]) := fun e he => by
        rw [List.take_succ_eq_append_getElem hjl] at he
        rcases List.mem_append.mp he with h1 | h1
        · exact Or.inl h1
        · exact Or.inr (List.mem_singleton.mp h1)
      obtain ⟨z, hz⟩ : ∃ z, z = l[j] := ⟨_, rfl⟩
      rw [← hz] at hcj hat htk
      cases hf : rg z lo hi with
      | false =>
        have hrj := Lib.hid (hat hf)
        have HU1 := Lib.hid (HB.out z true (by rw [hf]; rfl))
        clear hat htk hz hf hb hc
        go_wp2_with (go_at_fn 89; refine HU1.out.mono ?_; rintro y w' ⟨rfl, rfl⟩)
        go_ret
        exact ⟨by rw [hrj.out]; rfl, rfl⟩
      | true =>
        have HT2 : Hid (∀ e ∈ l.take (j + 1), rg e lo hi = true) := Lib.hid fun x hx => by
          rcases htk x hx with h | h
          · exact HT.out x h
          · rw [h]; exact hf
        have HU1 := Lib.hid (HB.out z false (by rw [hf]; rfl))
        clear hat htk hz hf hb hc
        go_wp2_with (go_at_fn 89; refine HU1.out.mono ?_; rintro y w' ⟨rfl, rfl⟩)
        go_roundw
        case rel => exact ⟨j + 1, by omega, by go_num, HT2, trivial⟩
        case measure => simp [intOf]; omega
    · obtain rfl : j = n := by omega
      have ii : ¬ (j : Int) < (j : Int) := by omega
      have hm1 : r = -1 := HH.out.2.1.none_ (List.all_eq_true.2 fun e he => HT.out e (by rw [List.take_of_length_le (by have := HH.out.1; omega)]; exact he))
      have HM := Lib.hid hm1
      clear hm1
      go_wp2_with fail
      go_ret
      exact ⟨by rw [HM.out]; rfl, rfl⟩

set_option maxHeartbeats 2000000 in
theorem ContI_any (lo hi : Int) (gl gm : Nat) (A : Option Addr) (n c : Nat) (l : List Int) (w : World) (h0 : w.cell? ⟨gl, 0, none⟩ = some (.int .i64 lo)) (h1 : w.cell? ⟨gm, 0, none⟩ = some (.int .i64 hi)) (h : Ints w (.slice A n c) l) (b : Bool) (hb : b = !l.all (fun z => rg z lo hi)) :
    Calls Tryz.prog 90 #[.slice A n c, .func (.func 89) #[] #[.pointer (some ⟨gl, 0, none⟩), .pointer (some ⟨gm, 0, none⟩)]] w fun y w' => y = .returned (.bool b) ∧ w = w' := by
  obtain ⟨r, hr⟩ := badI_ex lo hi l
  have CI := Lib.hid (IdxI_any lo hi gl gm A n c l w h0 h1 h r hr)
  have hcase : (r = -1 ∧ b = false) ∨ (0 ≤ r ∧ b = true) := by
    cases hl : l.all (fun z => rg z lo hi) with
    | true => exact Or.inl ⟨hr.none_ hl, by rw [hb, hl]; rfl⟩
    | false => exact Or.inr ⟨hr.some_ hl, by rw [hb, hl]; rfl⟩
  clear h0 h1 h hb hr
  rcases hcase with ⟨rfl, rfl⟩ | ⟨h0, rfl⟩
  all_goals
    go_enter Tryz.func90, Tryz.ntmps90
    go_wp2_with (go_at_call 100; go_must (refine CI.out.mono ?_; rintro y w1 ⟨rfl, rfl⟩))
    go_ret
    exact ⟨rfl, rfl⟩

set_option maxHeartbeats 2000000 in
theorem within_any (lo hi : Int) (A : Option Addr) (n c : Nat) (l : List Int) (w : World) (h : Ints w (.slice A n c) l) (b : Bool) (hb : b = l.all (fun z => rg z lo hi)) :
    Calls Tryz.prog 70 #[.int .i64 lo, .int .i64 hi, .slice A n c] w fun y w' => y = .returned (.bool b) ∧ Below w.heap.size w w' := by
  obtain ⟨W, g0, g1, hW, hg0, hg1, hbl, hq0, hq1, hsz⟩ := two_box w (.cells #[.int .i64 lo] 3) (.cells #[.int .i64 hi] 3)
  have c0 : W.cell? ⟨g0, 0, none⟩ = some (.int .i64 lo) := by rw [cell_of_row W g0 0 _ _ (0, 0) hq0]; rfl
  have c1 : W.cell? ⟨g1, 0, none⟩ = some (.int .i64 hi) := by rw [cell_of_row W g1 0 _ _ (0, 0) hq1]; rfl
  have CC := Lib.hid (ContI_any lo hi g0 g1 A n c l W c0 c1 (h.below hbl) (!b) (by rw [hb]))
  have HW := Lib.hid (And.intro hW (And.intro hg0 hg1))
  have HE := Lib.hid hbl
  clear hW hg0 hg1 hbl hq0 hq1 hsz c0 c1 h hb
  cases b
  all_goals
    go_enter Tryz.func70, Tryz.ntmps70
    go_upto_region 1 with fail
    rw [← HW.out.1]
    try simp only [World.size_alloc]
    try rw [← HW.out.2.1]
    try rw [← HW.out.2.2]
    go_wp2_with (go_at_call 90; go_must (refine CC.out.mono ?_; rintro y w1 ⟨rfl, rfl⟩))
    go_ret
    exact ⟨rfl, HE.out⟩

def numbersM (m : Ms) : Bool := [m.kind].all (fun z => rg z 1 6) && [m.frm, m.to].all (fun z => rg z 1 64) && decide (m.frm ≠ m.to) && [m.term].all (fun z => rg z 1 1099511627776) && [m.index, m.logTerm, m.commit, m.round, m.off].all (fun z => rg z 0 1099511627776)
theorem mayM_two (m : Ms) : mayM m = (numbersM m && listsM m) := by
  unfold mayM mayM1 mayM2 numbersM listsM
  simp only [List.all_cons, List.all_nil, Bool.and_true, Bool.and_assoc]

set_option maxHeartbeats 8000000 in
theorem numbers_any (m : Ms) (Ad : Option Addr) (nd cd : Nat) (Ae : Option Addr) (ne ce : Nat) (w : World) (h : InM m Ad nd cd Ae ne ce w) (b : Bool) (hb : b = numbersM m) :
    Calls Tryz.prog 38 #[.agg #[.int .i64 m.kind, .int .i64 m.frm, .int .i64 m.to, .int .i64 m.term, .int .i64 m.index, .int .i64 m.logTerm, .int .i64 m.commit, .int .i64 m.round, .bool m.ok, .int .i64 m.off, .slice Ad nd cd, .slice Ae ne ce]] w fun y w' => y = .returned (.bool b) ∧ Below w.heap.size w w' := by
  obtain ⟨W1, g, hW1, hg, hb1, hq, hsz⟩ := one_box w (.cells #[.int .i64 m.kind, .int .i64 m.frm, .int .i64 m.to, .int .i64 m.term, .int .i64 m.index, .int .i64 m.logTerm, .int .i64 m.commit, .int .i64 m.round, .bool m.ok, .int .i64 m.off, .slice Ad nd cd, .slice Ae ne ce] 30)
  have HW := Lib.hid (And.intro hW1 hg)
  have HE := Lib.hid hb1
  have HC := Lib.hid fun W (hW : Below W1.heap.size W1 W) => cells12 ((hW.block g (obj_lt hq)).trans hq)
  obtain ⟨i0, i1, i2, i3, i4, i5, i6, i7, i9⟩ := h.i0
  have HI := Lib.hid (And.intro (show ∀ z ∈ [m.kind], inI z by simp [i0]) (And.intro (show ∀ z ∈ [m.frm, m.to], inI z by simp [i1, i2]) (And.intro (show ∀ z ∈ [m.term], inI z by simp [i3]) (show ∀ z ∈ [m.index, m.logTerm, m.commit, m.round, m.off], inI z by simp [i4, i5, i6, i7, i9]))))
  obtain ⟨b1, e1⟩ : ∃ b1, b1 = [m.kind].all (fun z => rg z 1 6) := ⟨_, rfl⟩
  obtain ⟨b2, e2⟩ : ∃ b2, b2 = [m.frm, m.to].all (fun z => rg z 1 64) := ⟨_, rfl⟩
  obtain ⟨b4, e4⟩ : ∃ b4, b4 = [m.term].all (fun z => rg z 1 1099511627776) := ⟨_, rfl⟩
  obtain ⟨b5, e5⟩ : ∃ b5, b5 = [m.index, m.logTerm, m.commit, m.round, m.off].all (fun z => rg z 0 1099511627776) := ⟨_, rfl⟩
  have C1 := Lib.hid fun W hI => within_any 1 6 (some ⟨W1.heap.size, 0, none⟩) 1 1 [m.kind] W hI b1 e1
  have C2 := Lib.hid fun A W hI => within_any 1 64 A 2 2 [m.frm, m.to] W hI b2 e2
  have C4 := Lib.hid fun A W hI => within_any 1 1099511627776 A 1 1 [m.term] W hI b4 e4
  have C5 := Lib.hid fun A W hI => within_any 0 1099511627776 A 5 5 [m.index, m.logTerm, m.commit, m.round, m.off] W hI b5 e5
  have hcase : (b1 = false ∧ b = false) ∨ (b1 = true ∧ b2 = false ∧ b = false) ∨ (b1 = true ∧ b2 = true ∧ (m.frm != m.to) = false ∧ b = false) ∨ (b1 = true ∧ b2 = true ∧ (m.frm != m.to) = true ∧ b4 = false ∧ b = false) ∨ (b1 = true ∧ b2 = true ∧ (m.frm != m.to) = true ∧ b4 = true ∧ b = b5) := by
    unfold numbersM at hb
    rw [← e1, ← e2, ← e4, ← e5] at hb
    cases b1 with
    | false => exact Or.inl ⟨rfl, by simpa using hb⟩
    | true =>
      cases b2 with
      | false => exact Or.inr (Or.inl ⟨rfl, rfl, by simpa using hb⟩)
      | true =>
        by_cases h3 : m.frm = m.to
        · exact Or.inr (Or.inr (Or.inl ⟨rfl, rfl, by simp [h3], by simpa [h3] using hb⟩))
        · cases b4 with
          | false => exact Or.inr (Or.inr (Or.inr (Or.inl ⟨rfl, rfl, by simp [h3], rfl, by simpa [h3] using hb⟩)))
          | true => exact Or.inr (Or.inr (Or.inr (Or.inr ⟨rfl, rfl, by simp [h3], rfl, by simpa [h3] using hb⟩)))
  obtain ⟨z0, z1, z2, z3, z4, z5, z6, z7, z8, z9, z10, z11⟩ := cells12 hq
  clear hW1 hg hb1 hq hsz h hb e1 e2 e4 e5 i0 i1 i2 i3 i4 i5 i6 i7 i9
  rcases hcase with ⟨rfl, rfl⟩ | ⟨rfl, rfl, rfl⟩ | ⟨rfl, rfl, h3, rfl⟩ | ⟨rfl, rfl, h3, rfl, rfl⟩ | ⟨rfl, rfl, h3, rfl, rfl⟩
  · go_enter Tryz.func38, Tryz.ntmps38
    go_upto_region 1 with fail
    rw [← HW.out.1, ← HW.out.2]
    go_wp2_with (first
      | (go_at_call 70; refine (C1.out _ (Ints.lit (heap_alloc_new W1 _) rfl rfl (by omega) HI.out.1)).mono ?_; rintro y w1 ⟨rfl, hb⟩; have H1 := Lib.hid (Below.box (Below.refl _ _) hb); clear hb; obtain ⟨z0, z1, z2, z3, z4, z5, z6, z7, z8, z9, z10, z11⟩ := HC.out _ H1.out))
    go_ret
    exact ⟨rfl, HE.out.trans (H1.out.mono HE.out.size)⟩
  · go_enter Tryz.func38, Tryz.ntmps38
    go_upto_region 1 with fail
    rw [← HW.out.1, ← HW.out.2]
    go_wp2_with (first
      | (go_at_call 70; refine (C2.out _ _ (Ints.lit (heap_alloc_new w1 _) rfl rfl (by omega) HI.out.2.1)).mono ?_; rintro y w2 ⟨rfl, hb⟩; have H2 := Lib.hid (Below.box H1.out hb); clear hb; obtain ⟨z0, z1, z2, z3, z4, z5, z6, z7, z8, z9, z10, z11⟩ := HC.out _ H2.out)
      | (go_at_call 70; refine (C1.out _ (Ints.lit (heap_alloc_new W1 _) rfl rfl (by omega) HI.out.1)).mono ?_; rintro y w1 ⟨rfl, hb⟩; have H1 := Lib.hid (Below.box (Below.refl _ _) hb); clear hb; obtain ⟨z0, z1, z2, z3, z4, z5, z6, z7, z8, z9, z10, z11⟩ := HC.out _ H1.out))
    go_ret
    exact ⟨rfl, HE.out.trans (H2.out.mono HE.out.size)⟩
  · go_enter Tryz.func38, Tryz.ntmps38
    go_upto_region 1 with fail
    rw [← HW.out.1, ← HW.out.2]
    go_wp2_with (first
      | (go_at_call 70; refine (C2.out _ _ (Ints.lit (heap_alloc_new w1 _) rfl rfl (by omega) HI.out.2.1)).mono ?_; rintro y w2 ⟨rfl, hb⟩; have H2 := Lib.hid (Below.box H1.out hb); clear hb; obtain ⟨z0, z1, z2, z3, z4, z5, z6, z7, z8, z9, z10, z11⟩ := HC.out _ H2.out)
      | (go_at_call 70; refine (C1.out _ (Ints.lit (heap_alloc_new W1 _) rfl rfl (by omega) HI.out.1)).mono ?_; rintro y w1 ⟨rfl, hb⟩; have H1 := Lib.hid (Below.box (Below.refl _ _) hb); clear hb; obtain ⟨z0, z1, z2, z3, z4, z5, z6, z7, z8, z9, z10, z11⟩ := HC.out _ H1.out))
    go_ret
    exact ⟨rfl, HE.out.trans (H2.out.mono HE.out.size)⟩
  · go_enter Tryz.func38, Tryz.ntmps38
    go_upto_region 1 with fail
    rw [← HW.out.1, ← HW.out.2]
    go_wp2_with (first
      | (go_at_call 70; refine (C4.out _ _ (Ints.lit (heap_alloc_new w2 _) rfl rfl (by omega) HI.out.2.2.1)).mono ?_; rintro y w4 ⟨rfl, hb⟩; have H4 := Lib.hid (Below.box H2.out hb); clear hb; obtain ⟨z0, z1, z2, z3, z4, z5, z6, z7, z8, z9, z10, z11⟩ := HC.out _ H4.out)
      | (go_at_call 70; refine (C2.out _ _ (Ints.lit (heap_alloc_new w1 _) rfl rfl (by omega) HI.out.2.1)).mono ?_; rintro y w2 ⟨rfl, hb⟩; have H2 := Lib.hid (Below.box H1.out hb); clear hb; obtain ⟨z0, z1, z2, z3, z4, z5, z6, z7, z8, z9, z10, z11⟩ := HC.out _ H2.out)
      | (go_at_call 70; refine (C1.out _ (Ints.lit (heap_alloc_new W1 _) rfl rfl (by omega) HI.out.1)).mono ?_; rintro y w1 ⟨rfl, hb⟩; have H1 := Lib.hid (Below.box (Below.refl _ _) hb); clear hb; obtain ⟨z0, z1, z2, z3, z4, z5, z6, z7, z8, z9, z10, z11⟩ := HC.out _ H1.out))
    go_ret
    exact ⟨rfl, HE.out.trans (H4.out.mono HE.out.size)⟩
  · go_enter Tryz.func38, Tryz.ntmps38
    go_upto_region 1 with fail
    rw [← HW.out.1, ← HW.out.2]
    go_wp2_with (first
      | (go_at_call 70; refine (C5.out _ _ (Ints.lit (heap_alloc_new w4 _) rfl rfl (by omega) HI.out.2.2.2)).mono ?_; rintro y w5 ⟨rfl, hb⟩; have H5 := Lib.hid (Below.box H4.out hb); clear hb; obtain ⟨z0, z1, z2, z3, z4, z5, z6, z7, z8, z9, z10, z11⟩ := HC.out _ H5.out)
      | (go_at_call 70; refine (C4.out _ _ (Ints.lit (heap_alloc_new w2 _) rfl rfl (by omega) HI.out.2.2.1)).mono ?_; rintro y w4 ⟨rfl, hb⟩; have H4 := Lib.hid (Below.box H2.out hb); clear hb; obtain ⟨z0, z1, z2, z3, z4, z5, z6, z7, z8, z9, z10, z11⟩ := HC.out _ H4.out)
      | (go_at_call 70; refine (C2.out _ _ (Ints.lit (heap_alloc_new w1 _) rfl rfl (by omega) HI.out.2.1)).mono ?_; rintro y w2 ⟨rfl, hb⟩; have H2 := Lib.hid (Below.box H1.out hb); clear hb; obtain ⟨z0, z1, z2, z3, z4, z5, z6, z7, z8, z9, z10, z11⟩ := HC.out _ H2.out)
      | (go_at_call 70; refine (C1.out _ (Ints.lit (heap_alloc_new W1 _) rfl rfl (by omega) HI.out.1)).mono ?_; rintro y w1 ⟨rfl, hb⟩; have H1 := Lib.hid (Below.box (Below.refl _ _) hb); clear hb; obtain ⟨z0, z1, z2, z3, z4, z5, z6, z7, z8, z9, z10, z11⟩ := HC.out _ H1.out))
    go_ret
    exact ⟨rfl, HE.out.trans (H5.out.mono HE.out.size)⟩

set_option maxHeartbeats 4000000 in
theorem Check_any (m : Ms) (Ad : Option Addr) (nd cd : Nat) (Ae : Option Addr) (ne ce : Nat) (w : World) (hs : StdP w) (h : InM m Ad nd cd Ae ne ce w) (hse : SmallE 1000000 25663 m.ents) (k : Nat) (hk : k = (if mayM m = true then 0 else 1)) :
    Calls Tryz.prog 13 #[.agg #[.int .i64 m.kind, .int .i64 m.frm, .int .i64 m.to, .int .i64 m.term, .int .i64 m.index, .int .i64 m.logTerm, .int .i64 m.commit, .int .i64 m.round, .bool m.ok, .int .i64 m.off, .slice Ad nd cd, .slice Ae ne ce]] w fun y w' => y = .returned (er k) ∧ Below w.heap.size w w' := by
  obtain ⟨W1, g, hW1, hg, hb1, hq, hsz⟩ := one_box w (.cells #[.int .i64 m.kind, .int .i64 m.frm, .int .i64 m.to, .int .i64 m.term, .int .i64 m.index, .int .i64 m.logTerm, .int .i64 m.commit, .int .i64 m.round, .bool m.ok, .int .i64 m.off, .slice Ad nd cd, .slice Ae ne ce] 30)
  have HW := Lib.hid (And.intro hW1 hg)
  have HE := Lib.hid hb1
  have HC := Lib.hid fun W (hW : Below W1.heap.size W1 W) => cells12 ((hW.block g (obj_lt hq)).trans hq)
  obtain ⟨b1, e1⟩ : ∃ b1, b1 = numbersM m := ⟨_, rfl⟩
  obtain ⟨b2, e2⟩ : ∃ b2, b2 = listsM m := ⟨_, rfl⟩
  have C1 := Lib.hid (numbers_any m Ad nd cd Ae ne ce W1 (h.below hb1) b1 e1)
  have C2 := Lib.hid fun W (hW : Below W1.heap.size W1 W) => lists_any m Ad nd cd Ae ne ce W ((hs.more hb1).more hW) ((h.below hb1).below hW) hse b2 e2
  have hcase : (b1 = false ∧ k = 1) ∨ (b1 = true ∧ b2 = false ∧ k = 1) ∨ (b1 = true ∧ b2 = true ∧ k = 0) := by
    rw [mayM_two, ← e1, ← e2] at hk
    cases b1
    · exact Or.inl ⟨rfl, by simpa using hk⟩
    · cases b2
      · exact Or.inr (Or.inl ⟨rfl, rfl, by simpa using hk⟩)
      · exact Or.inr (Or.inr ⟨rfl, rfl, by simpa using hk⟩)
  obtain ⟨z0, z1, z2, z3, z4, z5, z6, z7, z8, z9, z10, z11⟩ := cells12 hq
  clear hW1 hg hb1 hq hsz h hs hse hk e1 e2
  rcases hcase with ⟨rfl, rfl⟩ | ⟨rfl, rfl, rfl⟩ | ⟨rfl, rfl, rfl⟩
  · go_enter Tryz.func13, Tryz.ntmps13
    go_upto_region 1 with fail
    rw [← HW.out.1, ← HW.out.2]
    go_wp2_with (go_at_call 38; go_must (refine C1.out.mono ?_; rintro y w1 ⟨rfl, hb⟩; have H1 := Lib.hid hb; clear hb))
    go_ret
    exact ⟨rfl, HE.out.trans (H1.out.mono HE.out.size)⟩
  all_goals
    go_enter Tryz.func13, Tryz.ntmps13
    go_upto_region 1 with fail
    rw [← HW.out.1, ← HW.out.2]
    go_wp2_with (first
      | (go_at_call 38; go_must (refine C1.out.mono ?_; rintro y w1 ⟨rfl, hb⟩; have H1 := Lib.hid hb; clear hb; obtain ⟨z0, z1, z2, z3, z4, z5, z6, z7, z8, z9, z10, z11⟩ := HC.out _ H1.out))
      | (go_at_call 39; go_must (refine (C2.out w1 H1.out).mono ?_; rintro y w2 ⟨rfl, hb⟩; have H2 := Lib.hid (H1.out.trans (hb.mono H1.out.size)); clear hb)))
    go_ret
    exact ⟨rfl, HE.out.trans (H2.out.mono HE.out.size)⟩

end Go.Proofs.YtfblgkcipnkhaaaGreatDoor.pk

/-
  The program's own laying of numbers, one behind the other.
-/
namespace Go.Proofs.YtfblgkcipnkhaaaGreatDoor.pk
open Go Go.RowKit
set_option maxRecDepth 100000

def lays (zs : List Int) : List UInt8 := zs.flatMap fun z => lUint (u64 z)
theorem lays_next {zs : List Int} {j : Nat} (h : j < zs.length) : lays (zs.take (j + 1)) = lays (zs.take j) ++ lUint (u64 zs[j]) := by
  unfold lays
  rw [List.take_succ_eq_append_getElem h, List.flatMap_append]
  simp
theorem lays_len : ∀ zs : List Int, (lays zs).length ≤ 22 * zs.length
  | [] => by simp [lays]
  | z :: zs => by
    have h1 := lays_len zs
    have h2 := dec_len (u64 z) (u64_lt z)
    have h3 : lays (z :: zs) = lUint (u64 z) ++ lays zs := by unfold lays; rw [List.flatMap_cons]
    rw [h3, List.length_append, List.length_cons]
    omega
theorem WR.alloc {w : World} {B p : Nat} {v : Value} {bs : List UInt8} (h : WR w B p v bs) (o : Obj) : WR (w.alloc o) B p v bs := ⟨h.low, (heap_alloc_old _ _ h.lt).trans h.blk, h.own.alloc o⟩
theorem KP.alloc {w : World} {B p : Nat} (hB : B ≤ w.heap.size) (o : Obj) : KP B p w (w.alloc o) := ⟨(Below.refl B w).alloc hB o, (Lib.OthersKept.refl _ _ w).alloc o⟩
theorem WR.kept {w w' : World} {B p : Nat} {v : Value} {bs : List UInt8} (h : WR w B p v bs) (hb : Below w.heap.size w w') : WR w' B p v bs := ⟨h.low, (hb.block p h.lt).trans h.blk, own_kept h.own hb⟩

set_option maxHeartbeats 4000000 in
theorem lay_any (B p g off n : Nat) (hoff : off = 0) (zs : List Int) (cs : Array Value) (v : Value) (bs : List UInt8) (w : World) (hs : StdG w) (hB6 : 6 ≤ B) (h : WR w B p v bs) (hg : w.heap[g]? = some (.cells cs 3 (0, 0))) (hcs : cs = (zs.map (Value.int .i64)).toArray) (hn : n = zs.length) (hl : bs.length + 22 * n + 22 ≤ 140737488355328) :
    Calls Tryz.prog 43 #[.pointer (some ⟨p, 0, none⟩), .slice (some ⟨g, off, none⟩) n n] w fun y w' => ∃ v', y = .returned (.tuple #[]) ∧ WR w' B p v' (bs ++ lays zs) ∧ KP B p w w' := by
  have hgp : g ≠ p := by
    intro e
    have h1 := h.blk
    rw [← e, hg] at h1
    injection h1 with h1
    injection h1 with h2 h3
    cases h3
  have in1 : (n : Int) ≤ 9223372036854775807 := by omega
  have HH := Lib.hid (And.intro hs (And.intro hB6 (And.intro hn hl)))
  have HC := Lib.hid fun W (hW : KP B p w W) j (hj : j < zs.length) => (show W.cell? ⟨g, off + j, none⟩ = some (.int .i64 zs[j]) from by
    have h1 : W.heap[g]? = some (.cells cs 3 (0, 0)) := hW.others g _ hg (by intro e; injection e with e; exact hgp e) (fun c fz e => by injection e with _ e2; cases e2)
    rw [hoff, Nat.zero_add, cell_of_row W g j _ _ (0, 0) h1, hcs]
    simp [hj])
  have H0 := Lib.hid h
  clear hs hB6 h hg hcs hn hl hgp hoff
  go_enter Tryz.func43, Tryz.ntmps43
  go_wp2_with fail
  go_loopw [8] (fun ii wr => ∃ (j : Nat) (v' : Value), j ≤ n ∧ ii = .int .i64 (j : Int) ∧ Hid (WR wr B p v' (bs ++ lays (zs.take j)) ∧ KP B p w wr)) (fun ii _ => n - (intOf ii).toNat)
  case atStart => exact ⟨0, v, Nat.zero_le _, rfl, Lib.hid ⟨by rw [List.take_zero]; simpa [lays] using H0.out, KP.refl _ _ _⟩⟩
  case round =>
    obtain ⟨j, v', hj, rfl, HR⟩ := hrel
    by_cases hlt : j < n
    · have ii : (j : Int) < (n : Int) := by omega
      have hjl : j < zs.length := by have := HH.out.2.2.1; omega
      have hc := HC.out wr HR.out.2 j hjl
      have hnx := lays_next hjl
      have hll := lays_len (zs.take j)
      rw [List.length_take] at hll
      obtain ⟨z, hz⟩ : ∃ z, z = zs[j] := ⟨_, rfl⟩
      rw [← hz] at hc hnx
      have kz := wrap_u64 z
      obtain ⟨u, hu⟩ : ∃ u, u = u64 z := ⟨_, rfl⟩
      have hul : u < 18446744073709551616 := by rw [hu]; exact u64_lt z
      rw [← hu] at kz hnx
      have CU := Lib.hid (Writer_Uint B p u hul v' (bs ++ lays (zs.take j)) wr (HH.out.1.low HH.out.2.1 HR.out.2.below) HH.out.2.1 HR.out.1 (by rw [List.length_append]; have := HH.out.2.2.2; omega))
      have HX := Lib.hid hnx
      clear hnx hll hz hu hul hjl
      go_wp2_with (go_at_call 74; go_must (refine CU.out.mono ?_; rintro y w1 ⟨v1, rfl, hw, hk⟩; have H1 := Lib.hid (And.intro hw hk); clear hw hk))
      go_roundw
      case rel => exact ⟨j + 1, v1, by omega, by go_num, Lib.hid ⟨by rw [HX.out, ← List.append_assoc]; exact H1.out.1, HR.out.2.trans H1.out.2⟩⟩
      case measure => simp [intOf]; omega
    · obtain rfl : j = n := by omega
      have ii : ¬ (j : Int) < (j : Int) := by omega
      have hfin := HR.out.1
      rw [List.take_of_length_le (by have := HH.out.2.2.1; omega)] at hfin
      have HF := Lib.hid hfin
      clear hfin
      go_wp2_with fail
      go_end0
      exact ⟨rfl, ⟨v', HF.out⟩, HR.out.2⟩

end Go.Proofs.YtfblgkcipnkhaaaGreatDoor.pk

/-
  The program's own bytes of a message.
-/
namespace Go.Proofs.YtfblgkcipnkhaaaGreatDoor.pk
open Go Go.RowKit
set_option maxRecDepth 100000

theorem encEs_nx {l : List En} {j : Nat} (h : j < l.length) : encEs (l.take (j + 1)) = encEs (l.take j) ++ lBytes (encE l[j]) := by
  unfold encEs
  rw [List.take_succ_eq_append_getElem h, List.flatMap_append]
  simp
theorem encEs_tk {l : List En} (h : ∀ e ∈ l, e.data.length ≤ 25663) (hn : l.length ≤ 200) (j : Nat) : (encEs (l.take j)).length ≤ 5200000 := by
  have h1 := encEs_len (d := 25663) (l := l.take j) (fun e he => h e (List.mem_of_mem_take he)) (by omega)
  rw [List.length_take] at h1
  have h2 : min j l.length * (25663 + 110) ≤ 200 * (25663 + 110) := Nat.mul_le_mul_right _ (by omega)
  omega

set_option maxHeartbeats 16000000 in
theorem Encode_m (m : Ms) (Ad : Option Addr) (nd cd : Nat) (Ae : Option Addr) (ne ce : Nat) (w : World) (hs : StdG w) (h : InM m Ad nd cd Ae ne ce w) (hnd : nd ≤ 10000) (hse : SmallE 200 25663 m.ents) (n : Nat) (hn : n = (encM m).length) :
    Calls Tryz.prog 16 #[.agg #[.int .i64 m.kind, .int .i64 m.frm, .int .i64 m.to, .int .i64 m.term, .int .i64 m.index, .int .i64 m.logTerm, .int .i64 m.commit, .int .i64 m.round, .bool m.ok, .int .i64 m.off, .slice Ad nd cd, .slice Ae ne ce]] w fun y w' => ∃ A1 c1, y = .returned (.slice A1 n c1) ∧ Bys w' (.slice A1 n c1) (encM m) ∧ Below w.heap.size w w' := by
  obtain ⟨W1, g, hW1, hg, hb1, hq, hsz⟩ := one_box w (.cells #[.int .i64 m.kind, .int .i64 m.frm, .int .i64 m.to, .int .i64 m.term, .int .i64 m.index, .int .i64 m.logTerm, .int .i64 m.commit, .int .i64 m.round, .bool m.ok, .int .i64 m.off, .slice Ad nd cd, .slice Ae ne ce] 30)
  have hl1 := h.data.len_
  have hl2 := h.ents.len_.1
  have HW := Lib.hid (And.intro hW1 hg)
  have HE := Lib.hid hb1
  obtain ⟨B, hB⟩ : ∃ B, B = W1.heap.size := ⟨_, rfl⟩
  have hs1 : StdG W1 := hs.below hb1
  have hGB : 6 ≤ B := by rw [hB]; exact hs1.size
  have HB := Lib.hid (And.intro hB hGB)
  have HS := Lib.hid fun W (hW : Below B W1 W) => hs1.low hGB hW
  have HC := Lib.hid fun W (hW : Below B W1 W) => cells12 ((hW.block g (by rw [hB]; exact obj_lt hq)).trans hq)
  have HI := Lib.hid fun W (hW : Below B W1 W) => (h.below hb1).below (hB ▸ hW)
  have HN := Lib.hid (And.intro hn (And.intro hse (And.intro hl1 (And.intro hl2 hnd))))
  obtain ⟨b1, e1⟩ : ∃ b, b = [] ++ lays [m.kind, m.frm, m.to, m.term, m.index, m.logTerm, m.commit, m.round] := ⟨_, rfl⟩
  obtain ⟨b2, e2⟩ : ∃ b, b = b1 ++ lBool m.ok := ⟨_, rfl⟩
  obtain ⟨b3, e3⟩ : ∃ b, b = b2 ++ lays [m.off] := ⟨_, rfl⟩
  obtain ⟨b4, e4⟩ : ∃ b, b = b3 ++ lBytes m.data := ⟨_, rfl⟩
  obtain ⟨b5, e5⟩ : ∃ b, b = b4 ++ lays [(ne : Int)] := ⟨_, rfl⟩
  have q1 : b1.length ≤ 176 := by rw [e1, List.nil_append]; exact lays_len _
  have q2 : b2.length ≤ 177 := by rw [e2, List.length_append]; cases m.ok <;> simp [lBool] <;> omega
  have q3 : b3.length ≤ 199 := by rw [e3, List.length_append]; have := lays_len [m.off]; simp only [List.length_singleton] at this; omega
  have q4 : b4.length ≤ 10300 := by
    rw [e4, List.length_append]
    have := lHead_len 98 m.data.length (by omega)
    unfold lBytes
    rw [List.length_append]
    omega
  have q5 : b5.length ≤ 10400 := by rw [e5, List.length_append]; have := lays_len [(ne : Int)]; simp only [List.length_singleton] at this; omega
  have hb5 : encM m = b5 ++ encEs m.ents := by
    unfold encM headM
    rw [e5, e4, e3, e2, e1]
    have hu : u64 (ne : Int) = m.ents.length := by rw [hl2]; exact u64_nat _ (by have := hse.1; omega)
    simp [lays, hu, List.append_assoc]
  have HQ := Lib.hid (And.intro hb5 q5)
  have in2 : (ne : Int) ≤ 9223372036854775807 := by have := h.ents.len_; omega
  have C0 := Lib.hid (New_any W1)
  rw [← hB] at C0
  have C1 := Lib.hid fun g W (hw : Below B W1 W ∧ WR W B B (.slice none 0 0) []) hg => lay_any B B g 0 8 rfl [m.kind, m.frm, m.to, m.term, m.index, m.logTerm, m.commit, m.round] _ (.slice none 0 0) [] W (HS.out W hw.1) hGB hw.2 hg rfl rfl (by simp)
  have C2 := Lib.hid fun v W hw => Writer_Bool B B m.ok v b1 W hw (by omega)
  have C3 := Lib.hid fun g v W (hw : Below B W1 W ∧ WR W B B v b2) hg => lay_any B B g 0 1 rfl [m.off] _ v b2 W (HS.out W hw.1) hGB hw.2 hg rfl rfl (by omega)
  have C4 := Lib.hid fun v W (hw : Below B W1 W ∧ WR W B B v b3) => Writer_Bytes B B Ad nd cd m.data B (Nat.le_refl _) v b3 W (HS.out W hw.1) hGB hw.2 (((h.data.below hb1).sl_.more (Nat.le_of_eq hB.symm)).below hw.1) (by omega)
  have C5 := Lib.hid fun g v W (hw : Below B W1 W ∧ WR W B B v b4) hg => lay_any B B g 0 1 rfl [(ne : Int)] _ v b4 W (HS.out W hw.1) hGB hw.2 hg rfl rfl (by omega)
  rw [← e1] at C1
  rw [← e2] at C2
  rw [← e3] at C3
  rw [← e4] at C4
  rw [← e5] at C5
  obtain ⟨z0, z1, z2, z3, z4, z5, z6, z7, z8, z9, z10, z11⟩ := cells12 hq
  clear hW1 hg hb1 hq hsz h hs hs1 hnd hse hn e1 e2 e3 e4 e5 q1 q2 q3 q4 q5 hb5 hl1 hl2 hGB hB
  go_enter Tryz.func16, Tryz.ntmps16
  go_upto_region 1 with fail
  rw [← HW.out.1, ← HW.out.2]
  go_upto_region 2 with (go_at_call 42; go_must (refine C0.out.mono ?_; rintro y w1 ⟨rfl, hw, hb⟩; obtain ⟨z0, z1, z2, z3, z4, z5, z6, z7, z8, z9, z10, z11⟩ := HC.out w1 hb; have H1 := Lib.hid (And.intro hb hw); clear hb hw))
  go_upto_region 3 with (go_at_call 43; go_must (refine (C1.out _ _ (And.intro (H1.out.1.trans ((below_alloc _ _).mono H1.out.2.hB)) (H1.out.2.alloc _)) (heap_alloc_new _ _)).mono ?_; rintro y w2 ⟨v2, rfl, hw, hk⟩; have hb := (H1.out.1.trans ((below_alloc _ _).mono H1.out.2.hB)).trans hk.below; obtain ⟨z0, z1, z2, z3, z4, z5, z6, z7, z8, z9, z10, z11⟩ := HC.out w2 hb; have H2 := Lib.hid (And.intro hb hw); clear hb hw hk))
  go_upto_region 4 with (go_at_call 44; go_must (refine (C2.out _ _ H2.out.2).mono ?_; rintro y w3 ⟨v3, rfl, hw, hk⟩; have hb := H2.out.1.trans hk.below; obtain ⟨z0, z1, z2, z3, z4, z5, z6, z7, z8, z9, z10, z11⟩ := HC.out w3 hb; have H3 := Lib.hid (And.intro hb hw); clear hb hw hk))
  go_upto_region 5 with (go_at_call 43; go_must (refine (C3.out _ v3 _ (And.intro (H3.out.1.trans ((below_alloc _ _).mono H3.out.2.hB)) (H3.out.2.alloc _)) (heap_alloc_new _ _)).mono ?_; rintro y w4 ⟨v4, rfl, hw, hk⟩; have hb := (H3.out.1.trans ((below_alloc _ _).mono H3.out.2.hB)).trans hk.below; obtain ⟨z0, z1, z2, z3, z4, z5, z6, z7, z8, z9, z10, z11⟩ := HC.out w4 hb; have H4 := Lib.hid (And.intro hb hw); clear hb hw hk))
  go_upto_region 6 with (go_at_call 45; go_must (refine (C4.out _ _ H4.out).mono ?_; rintro y w5 ⟨v5, rfl, hw, hk⟩; have hb := H4.out.1.trans hk.below; obtain ⟨z0, z1, z2, z3, z4, z5, z6, z7, z8, z9, z10, z11⟩ := HC.out w5 hb; have H5 := Lib.hid (And.intro hb hw); clear hb hw hk))
  go_upto_region 7 with (go_at_call 43; go_must (refine (C5.out _ v5 _ (And.intro (H5.out.1.trans ((below_alloc _ _).mono H5.out.2.hB)) (H5.out.2.alloc _)) (heap_alloc_new _ _)).mono ?_; rintro y w6 ⟨v6, rfl, hw, hk⟩; have hb := (H5.out.1.trans ((below_alloc _ _).mono H5.out.2.hB)).trans hk.below; obtain ⟨z0, z1, z2, z3, z4, z5, z6, z7, z8, z9, z10, z11⟩ := HC.out w6 hb; have H6 := Lib.hid (And.intro hb hw); clear hb hw hk))
  clear C0 C1 C2 C3 C4 C5 H1 H2 H3 H4 H5
  go_wp2_with fail
  go_loopw [48] (fun ii wr => ∃ (j : Nat) (v' : Value), j ≤ ne ∧ ii = .int .i64 (j : Int) ∧ Hid (Below B W1 wr ∧ WR wr B B v' (b5 ++ encEs (m.ents.take j)))) (fun ii _ => ne - (intOf ii).toNat)
  case atStart => exact ⟨0, v6, Nat.zero_le _, rfl, Lib.hid ⟨H6.out.1, by rw [List.take_zero]; simpa [encEs] using H6.out.2⟩⟩
  case round =>
    obtain ⟨j, v', hj, rfl, HR⟩ := hrel
    clear z0 z1 z2 z3 z4 z5 z6 z7 z8 z9 z10 z11
    have hsmall := encEs_tk HN.out.2.1.2 HN.out.2.1.1
    by_cases hlt : j < ne
    · have ii : (j : Int) < (ne : Int) := by omega
      have hjl : j < m.ents.length := by have := HN.out.2.2.2.1; omega
      obtain ⟨bk, off, Ae', ce', rfl, hbb, hok, y0, y1, y2, y3, hdat⟩ := (HI.out wr HR.out.1).ents.at_ j hjl
      have hnx := encEs_nx hjl
      have hsm := HN.out.2.1.2 _ (List.getElem_mem hjl)
      obtain ⟨e, he⟩ : ∃ e, e = m.ents[j] := ⟨_, rfl⟩
      rw [← he] at y0 y1 y2 y3 hdat hnx hsm
      obtain ⟨me, hme⟩ : ∃ me, me = e.data.length := ⟨_, rfl⟩
      rw [← hme] at y3 hdat hsm
      obtain ⟨WB, qb, hWB, hqb, hbx, hqx, hszx⟩ := one_box wr (.cells #[.int .i64 e.index, .int .i64 e.term, .int .i64 e.kind, .slice Ae' me ce'] 57)
      obtain ⟨k, hk⟩ : ∃ k, k = (encE e).length := ⟨_, rfl⟩
      have hkl : k ≤ 30000 := by have := encE_len (e := e) (by omega); omega
      have hbW : Below B W1 WB := HR.out.1.trans (hbx.mono HR.out.2.hB)
      have CE := Lib.hid (EEncT_any e Ae' me ce' WB (HS.out WB hbW) (hdat.below hbx) (by omega) k hk)
      have CB := Lib.hid fun A c v W (hw : Below B W1 W ∧ WR W B B v (b5 ++ encEs (m.ents.take j))) ht => Writer_BytesQ B B A k c (encE e) v (b5 ++ encEs (m.ents.take j)) W (HS.out W hw.1) HB.out.2 hw.2 ht (by rw [List.length_append]; have h1 := HQ.out.2; have h2 := hsmall j; omega)
      have HX := Lib.hid (And.intro hnx (And.intro hbW (And.intro hbx (And.intro hWB hqb))))
      have HWR := Lib.hid (HR.out.2.kept hbx)
      obtain ⟨x0, x1, x2, x3⟩ := cells4 hqx
      clear hnx hsm he hme hdat hWB hqb hbx hqx hszx hk hkl hbW hsmall hok hbb hjl
      go_upto_region 10 with fail
      rw [← HX.out.2.2.2.1, ← HX.out.2.2.2.2]
      go_wp2_with (first
        | (go_at_call 46; go_must (refine CE.out.mono ?_; rintro y w7 ⟨A7, c7, rfl, hi, hb⟩; have H7 := Lib.hid (And.intro hi (And.intro (HX.out.2.1.trans (hb.mono HWR.out.hB)) (HWR.out.kept hb))); clear hi hb))
        | (go_at_call 45; go_must (refine (CB.out A7 c7 v' w7 H7.out.2 (H7.out.1.mono fun q hq => ⟨hq.2, by have h1 := hq.1; have h2 := HWR.out.lt; omega, fun e' => by have h1 := (HWR.out.own.lt q e').2; have h2 := hq.1; omega⟩)).mono ?_; rintro y w8 ⟨v8, rfl, hw, hk⟩; have H8 := Lib.hid (And.intro (H7.out.2.1.trans hk.below) hw); clear hw hk)))
      go_roundw
      case rel => exact ⟨j + 1, v8, by omega, by go_num, Lib.hid ⟨H8.out.1, by rw [HX.out.1, ← List.append_assoc]; exact H8.out.2⟩⟩
      case measure => simp [intOf]; omega
    · obtain rfl : j = ne := by omega
      have ii : ¬ (j : Int) < (j : Int) := by omega
      have hfin := HR.out.2
      rw [List.take_of_length_le (by have := HN.out.2.2.2.1; omega), ← HQ.out.1] at hfin
      have hsl : (encM m).length ≤ 140737488355328 := by rw [HQ.out.1, List.length_append]; have h1 := HQ.out.2; have h2 := hsmall j; rw [List.take_of_length_le (by have := HN.out.2.2.2.1; omega)] at h2; omega
      have CD := Lib.hid (Writer_Done B B v' (encM m) wr hfin hsl)
      have HF := Lib.hid (HE.out.trans (HR.out.1.mono (by rw [HB.out.1]; exact HE.out.size)))
      have HH := Lib.hid hfin.hB
      clear hfin hsl hsmall
      go_wp2_with (go_at_call 47; go_must (refine CD.out.mono ?_; rintro y w9 ⟨u, rfl, ho, hb⟩; have hI := Bys.of_own ho; obtain ⟨A9, c9, rfl, -, -⟩ := hI.form; rw [← HN.out.1] at hI; have H9 := Lib.hid (And.intro hI hb); clear ho hI hb))
      go_ret
      exact ⟨A9, c9, by rw [HN.out.1]; rfl, H9.out.1, HF.out.trans (H9.out.2.mono HF.out.size)⟩

end Go.Proofs.YtfblgkcipnkhaaaGreatDoor.pk

/-
  What the program's own functions of sums promise: walked.
-/
namespace Go.Proofs.YtfblgkcipnkhaaaGreatDoor.pk
open Go Go.RowKit
set_option maxRecDepth 100000

theorem sh_even (r : Nat) (h : ¬ r % 2 = 1) : sh r = r / 2 := by unfold sh; rw [if_neg h]
theorem sh_odd (r : Nat) (h : r % 2 = 1) : sh r = r / 2 ^^^ 2197175160 := by unfold sh; rw [if_pos h]
theorem rep_snoc (k a : Nat) : rep (k + 1) a = sh (rep k a) := by rw [rep_add k 1]; rfl

theorem More_any (s : Nat) (hs : s < 4294967296) (A : Option Addr) (n c : Nat) (bs : List UInt8) (w : World) (B : Nat) (h : Sl w B (.slice A n c) bs) :
    Calls Tryz.prog 97 #[.int .u32 (s : Int), .slice A n c] w fun x w' => x = .returned (.int .u32 (more s bs : Int)) ∧ w' = w := by
  obtain ⟨hn, hc1, hc2⟩ := h.len
  have H := Lib.hid h
  have hx0 : bits .xor .u32 IntKind.u32.max (s : Int) = ((s ^^^ 4294967295 : Nat) : Int) := by rw [Nat.xor_comm]; exact u32_xor_nat 4294967295 s (by omega) hs
  have hs0 : s ^^^ 4294967295 < 4294967296 := Nat.xor_lt_two_pow (n := 32) (by omega) (by omega)
  have HM : Hid (more s bs = crc (s ^^^ 4294967295) bs ^^^ 4294967295) := Lib.hid (by unfold more; rw [Nat.xor_comm 4294967295, Nat.xor_comm 4294967295 s])
  generalize s ^^^ 4294967295 = s0 at hx0 hs0 HM
  go_enter Tryz.func97, Tryz.ntmps97
  go_wp2_with fail
  go_loopw [5, 13] (fun rr ii wr => ∃ j : Nat, j ≤ n ∧ rr = .int .u32 (crc s0 (bs.take j) : Int) ∧ ii = .int .i64 (j : Int) ∧ wr = w) (fun _ ii _ => n - (intOf ii).toNat)
  case atStart => exact ⟨0, by omega, rfl, rfl, rfl⟩
  case round =>
    obtain ⟨j, hj, rfl, rfl, rfl⟩ := hrel
    by_cases hlt : j < n
    · obtain ⟨A', c', hv, _, _, h3⟩ := H.out
      injection hv with e1 e2 e3
      subst e1; subst e3
      have hjl : j < bs.length := by omega
      rcases h3 with h3 | ⟨b, off, rfl, hbB, hcell⟩
      · rw [h3] at hjl; simp at hjl
      have hq := hcell j hjl
      have hgd : bs.getD j 0 = bs[j] := by simp [List.getD, List.getElem?_eq_getElem hjl]
      rw [hgd] at hq
      have htk : crc s0 (bs.take (j + 1)) = crcB (crc s0 (bs.take j)) bs[j].toNat := by rw [List.take_succ_eq_append_getElem hjl, crc_append]; rfl
      have HTK := Lib.hid htk
      have hr := crc_lt (bs.take j) hs0
      have hx := bs[j].toNat_lt
      generalize bs[j].toNat = x at hq HTK hx
      generalize crc s0 (bs.take j) = r at HTK hr
      have hx8 : x < 256 := hx
      have i1 : (j : Int) < (n : Int) := by omega
      have hw1 : IntKind.u32.wrap (x : Int) = (x : Int) := by rw [IntKind.wrap_u32']; omega
      have hx1 : bits .xor .u32 (r : Int) (x : Int) = ((r ^^^ x : Nat) : Int) := u32_xor_nat r x hr (by omega)
      have hs1 : r ^^^ x < 4294967296 := Nat.xor_lt_two_pow (n := 32) (by omega) (by omega)
      have HCB : Hid (crc s0 (bs.take (j + 1)) = rep 8 (r ^^^ x)) := Lib.hid (by rw [HTK.out]; rfl)
      clear hcell htk hgd HTK
      generalize r ^^^ x = y at hx1 hs1 HCB
      go_wp2_with fail
      go_loopw [5, 21] (fun rr kk wq => ∃ k : Nat, k ≤ 8 ∧ rr = .int .u32 (rep k y : Int) ∧ kk = .int .i64 (k : Int) ∧ wq = wr) (fun _ kk _ => 8 - (intOf kk).toNat)
      case atStart => exact ⟨0, by omega, rfl, rfl, rfl⟩
      case round =>
        obtain ⟨k, hk, rfl, rfl, rfl⟩ := hrel
        by_cases hk8 : k < 8
        · have i2 : (k : Int) < 8 := by omega
          have HS := Lib.hid (rep_snoc k y)
          have hRl := rep_lt k hs1
          generalize rep k y = R at HS hRl
          have ha1 : bits .and .u32 (R : Int) 1 = ((R % 2 : Nat) : Int) := by
            have := u32_and_nat R 1 hRl (by omega)
            rw [nat_mask1] at this
            exact this
          obtain ⟨h2, hh2⟩ : ∃ h2 : Nat, h2 = R / 2 := ⟨_, rfl⟩
          have hr3 : (R : Int) / 2 = (h2 : Int) := by rw [hh2]; rfl
          have hr4 : IntKind.u32.wrap (h2 : Int) = (h2 : Int) := by rw [IntKind.wrap_u32']; omega
          have hr5 : bits .xor .u32 (h2 : Int) 2197175160 = ((h2 ^^^ 2197175160 : Nat) : Int) := u32_xor_nat h2 2197175160 (by omega) (by omega)
          by_cases hpar : R % 2 = 1
          · have HV : Hid (rep (k + 1) y = h2 ^^^ 2197175160) := Lib.hid (by rw [HS.out, sh_odd R hpar, hh2])
            rw [hpar] at ha1
            clear hh2 hpar
            go_wp2_with fail
            go_roundw
            case rel => exact ⟨k + 1, by omega, by rw [HV.out], by go_num, by simp⟩
            case measure => simp [intOf]; omega
          · have HV : Hid (rep (k + 1) y = h2) := Lib.hid (by rw [HS.out, sh_even R hpar, hh2])
            rw [show R % 2 = 0 from by omega] at ha1
            clear hh2 hpar
            go_wp2_with fail
            go_roundw
            case rel => exact ⟨k + 1, by omega, by rw [HV.out], by go_num, by simp⟩
            case measure => simp [intOf]; omega
        · obtain rfl : k = 8 := by omega
          rw [← HCB.out]
          go_wp2_with fail
          go_roundw
          case rel => exact ⟨j + 1, by omega, rfl, by go_num, by simp⟩
          case measure => simp [intOf]; omega
    · obtain rfl : j = n := by omega
      have htk : bs.take j = bs := by rw [hn]; exact List.take_length
      rw [htk]
      have hl := crc_lt bs hs0
      have hxe : bits .xor .u32 IntKind.u32.max (crc s0 bs : Int) = ((crc s0 bs ^^^ 4294967295 : Nat) : Int) := by rw [Nat.xor_comm]; exact u32_xor_nat 4294967295 _ (by omega) hl
      have HMM := Lib.hid HM.out
      rw [← HM.out] at hxe
      generalize crc s0 bs = C at hxe
      go_wp2_with fail
      go_ret
      exact ⟨rfl, rfl⟩

theorem Sum_any (A : Option Addr) (n c : Nat) (bs : List UInt8) (w : World) (B : Nat) (h : Sl w B (.slice A n c) bs) :
    Calls Tryz.prog 83 #[.slice A n c] w fun x w' => x = .returned (.int .u32 (sum bs : Int)) ∧ w' = w := by
  have c1 := Lib.hid (More_any 0 (by omega) A n c bs w B h)
  rw [more_zero] at c1
  clear h
  go_enter Tryz.func83, Tryz.ntmps83
  go_wp2_with (go_at_call 97; go_must (refine c1.out.mono ?_; rintro y w1 ⟨rfl, rfl⟩))
  go_ret
  exact ⟨rfl, rfl⟩

end Go.Proofs.YtfblgkcipnkhaaaGreatDoor.pk

/-
  The program's own sealing: walked.
-/
namespace Go.Proofs.YtfblgkcipnkhaaaGreatDoor.pk
open Go Go.RowKit
set_option maxRecDepth 100000

theorem tail4_four (m : Nat) : ∃ t0 t1 t2 t3 : UInt8, tail4 m = [t0, t1, t2, t3] := ⟨_, _, _, _, rfl⟩

theorem SumBytes_any (m : Nat) (hm : m < 4294967296) (t0 t1 t2 t3 : UInt8) (ht : tail4 m = [t0, t1, t2, t3]) (w : World) :
    Calls Tryz.prog 82 #[.int .u32 (m : Int)] w fun x w' => x = .returned (.agg #[.int .u8 (t0.toNat : Int), .int .u8 (t1.toNat : Int), .int .u8 (t2.toNat : Int), .int .u8 (t3.toNat : Int)]) ∧ Below w.heap.size w w' := by
  unfold tail4 at ht
  simp only [List.cons.injEq, and_true] at ht
  obtain ⟨h0, h1, h2, h3⟩ := ht
  have g0 : t0.toNat = m % 256 := by rw [← h0, toNat_ofNat]
  have g1 : t1.toNat = m / 256 % 256 := by rw [← h1, toNat_ofNat]
  have g2 : t2.toNat = m / 65536 % 256 := by rw [← h2, toNat_ofNat]
  have g3 : t3.toNat = m / 16777216 % 256 := by rw [← h3, toNat_ofNat]
  clear h0 h1 h2 h3
  obtain ⟨d1, f1⟩ : ∃ d1 : Nat, d1 = m / 256 := ⟨_, rfl⟩
  obtain ⟨d2, f2⟩ : ∃ d2 : Nat, d2 = m / 65536 := ⟨_, rfl⟩
  obtain ⟨d3, f3⟩ : ∃ d3 : Nat, d3 = m / 16777216 := ⟨_, rfl⟩
  have e1 : (m : Int) / 256 = (d1 : Int) := by rw [f1]; rfl
  have e2 : (m : Int) / 65536 = (d2 : Int) := by rw [f2]; rfl
  have e3 : (m : Int) / 16777216 = (d3 : Int) := by rw [f3]; rfl
  have w1 : IntKind.u32.wrap (d1 : Int) = (d1 : Int) := by rw [IntKind.wrap_u32']; omega
  have w2 : IntKind.u32.wrap (d2 : Int) = (d2 : Int) := by rw [IntKind.wrap_u32']; omega
  have w3 : IntKind.u32.wrap (d3 : Int) = (d3 : Int) := by rw [IntKind.wrap_u32']; omega
  have b0 : IntKind.u8.wrap (m : Int) = (t0.toNat : Int) := by rw [IntKind.wrap_u8']; omega
  have b1 : IntKind.u8.wrap (d1 : Int) = (t1.toNat : Int) := by rw [IntKind.wrap_u8']; omega
  have b2 : IntKind.u8.wrap (d2 : Int) = (t2.toNat : Int) := by rw [IntKind.wrap_u8']; omega
  have b3 : IntKind.u8.wrap (d3 : Int) = (t3.toNat : Int) := by rw [IntKind.wrap_u8']; omega
  clear f1 f2 f3 g0 g1 g2 g3 hm
  go_enter Tryz.func82, Tryz.ntmps82
  go_wp2
  refine bodyPost_ret (v := .agg #[.int .u8 (t0.toNat : Int), .int .u8 (t1.toNat : Int), .int .u8 (t2.toNat : Int), .int .u8 (t3.toNat : Int)]) ?_ rfl ⟨rfl, (Below.refl _ _).alloc (Nat.le_refl _) _⟩
  have hres : Tryz.f82.results = #[.cell 2 141] := by kernel_rfl
  simp only [results, hres]
  go_simp

set_option maxHeartbeats 1000000 in
theorem Seal_any (kind : UInt8) (A : Option Addr) (n c : Nat) (b : List UInt8) (w : World) (B : Nat) (hB : B ≤ w.heap.size) (h : Sl w B (.slice A n c) b) :
    Calls Tryz.prog 57 #[.int .u8 (kind.toNat : Int), .slice A n c] w fun x w' => ∃ v, x = .returned (.tuple #[v, er (sealE kind b)]) ∧ w'.ownsRow w.heap.size 5 1 v (sealB kind b).length (Lib.byteCells (sealB kind b)) ∧ Below w.heap.size w w' := by
  obtain ⟨i0, hi, hz0, hz1, hz2⟩ := info_parts info_u8
  obtain ⟨hn, hc1, hc2⟩ := h.len
  have H := Lib.hid h
  have HN := Lib.hid hn
  clear h
  by_cases hk : kind = 0
  · have he : sealE kind b = 1 := by unfold sealE; rw [if_pos hk]
    have hs : sealB kind b = [] := by unfold sealB; rw [he]; rfl
    have hkI : (kind.toNat : Int) = 0 := by rw [hk]; rfl
    rw [he, hs, hkI]
    clear hk he hs hkI hn
    go_enter Tryz.func57, Tryz.ntmps57
    go_wp2
    go_ret2
    exact ⟨_, rfl, World.ownsRow_nil _ _ _ _, Below.refl _ _⟩
  · have hk0 : ¬ kind.toNat = 0 := fun e => hk (UInt8.toNat_inj.1 (by rw [e]; rfl))
    have hkI : ¬ (kind.toNat : Int) = 0 := by omega
    have hkB : ((kind.toNat : Int) == 0) = false := by rw [beq_eq_false_iff_ne]; exact hkI
    by_cases hl : 1048576 < b.length
    · have he : sealE kind b = 2 := by unfold sealE; rw [if_neg hk, if_pos hl]
      have hs : sealB kind b = [] := by unfold sealB; rw [he]; rfl
      have i1 : (1048576 : Int) < (n : Int) := by omega
      rw [he, hs]
      generalize (kind.toNat : Int) = kI at hkI hkB
      clear hk he hs hn hk0 hl
      go_enter Tryz.func57, Tryz.ntmps57
      go_wp2
      go_ret2
      exact ⟨_, rfl, World.ownsRow_nil _ _ _ _, Below.refl _ _⟩
    · have he : sealE kind b = 0 := by unfold sealE; rw [if_neg hk, if_neg hl]
      have hs : sealB kind b = (kind :: b) ++ tail4 (sum (kind :: b)) := by unfold sealB; rw [if_pos he]
      have i1 : ¬ (1048576 : Int) < (n : Int) := by omega
      have i2 : (n : Int) ≤ 1048576 := by omega
      rw [he, er_zero]
      have HNb := Lib.hid (show b.length ≤ 1048576 by omega)
      have HS4 := Lib.hid (sum_lt (kind :: b))
      obtain ⟨t0, t1, t2, t3, ht⟩ := tail4_four (sum (kind :: b))
      have HT := Lib.hid ht
      have HSS := Lib.hid hs
      clear hk he hn hk0 hl ht hs
      go_enter Tryz.func57, Tryz.ntmps57
      go_upto_region 6 with (at_make; refine wpList_make_own _ rfl _ _ 22 rfl w.heap.size 5 i0 _ 1 Tryz.underlying22 hi hz0 hz1 .i64 .i64 _ (1 + n + 4) rfl rfl (by omega) (by rw [hz2]; omega) (by unfold maxLen; omega) (Nat.le_refl _) ?_; intro w0 hown0 hg0; have HO0 := Lib.hid hown0; have HB0 := Lib.hid ((Below.refl w.heap.size w).grown hg0 (Nat.le_refl _) (fun k hk => by cases hk)); clear hown0 hg0)
      obtain ⟨W1, hW1⟩ : ∃ W1, W1 = w0.alloc (.cells #[.int .u8 (kind.toNat : Int)] 5) := ⟨_, rfl⟩
      have hb1 : Below w.heap.size w W1 := by rw [hW1]; exact HB0.out.alloc HB0.out.size _
      have hl1 : Sl W1 W1.heap.size (.slice (some ⟨w0.heap.size, 0, none⟩) 1 1) [kind] := by rw [hW1]; exact Sl.lit w0 5 [kind] _ (by simp) (by simp)
      have ho1 : W1.ownsRow w.heap.size 5 1 (.slice (some ⟨w.heap.size, 0, none⟩) 0 (1 + n + 4)) 0 [] := by rw [hW1]; exact HO0.out.alloc _
      have HO1 := Lib.hid ho1
      have HB1 := Lib.hid hb1
      have HL1 := Lib.hid hl1
      clear hb1 hl1 ho1
      go_upto_region 9 with (first
        | (go_at_call 82; go_must (refine (SumBytes_any _ HS4.out t0 t1 t2 t3 HT.out _).mono ?_; rintro y w5 ⟨rfl, hb5⟩; have HO5 := Lib.hid (own_below HO3.out hb5); have HB5 := Lib.hid (HB3.out.trans (hb5.mono HB3.out.size)); clear hb5))
        | (go_at_call 83; go_must (refine (Sum_any A3 _ c3 (kind :: b) _ _ T3.out).mono ?_; rintro y w4 ⟨rfl, rfl⟩))
        | (at_builtin; refine wpList_append_sl rfl _ _ 22 rfl w.heap.size 5 i0 _ Tryz.underlying22 hi hz0 hz1 hz2 rfl _ _ _ rfl HO2.out B A n c b rfl (H.out.below (HB2.out.mono hB)) (by have := HNb.out; omega) HB2.out.size ?_; intro v3 w3 hown3 hg3; have HB3 := Lib.hid (HB2.out.grown hg3 HB2.out.size (fun k hk => (HO2.out.lt k hk).1)); have HO3' := Lib.hid (show w3.ownsRow w.heap.size 5 1 v3 (1 + b.length) (Lib.byteCells (kind :: b)) from hown3); obtain ⟨A3, c3, hv3, hsl3⟩ := own_sl HO3'.out (by simp; omega); subst hv3; have T3 := Lib.hid hsl3; have HO3 := Lib.hid HO3'.out; clear hown3 hg3 hsl3 HO3')
        | (at_builtin; refine wpList_append_sl rfl _ _ 22 rfl w.heap.size 5 i0 _ Tryz.underlying22 hi hz0 hz1 hz2 rfl _ 0 [] rfl (by rw [← hW1]; exact HO1.out) W1.heap.size (some ⟨w0.heap.size, 0, none⟩) 1 1 [kind] rfl (by rw [← hW1]; exact HL1.out) (by simp) (by rw [← hW1]; exact HB1.out.size) ?_; rw [← hW1]; intro v2 w2 hown2 hg2; have HB2 := Lib.hid (HB1.out.grown hg2 HB1.out.size (fun k hk => (HO1.out.lt k hk).1)); have HO2 := Lib.hid (show w2.ownsRow w.heap.size 5 1 v2 1 (Lib.byteCells [kind]) from hown2); clear hown2 hg2))
      obtain ⟨W6, hW6⟩ : ∃ W6, W6 = w5.alloc (.cells #[.int .u8 (t0.toNat : Int), .int .u8 (t1.toNat : Int), .int .u8 (t2.toNat : Int), .int .u8 (t3.toNat : Int)] 141) := ⟨_, rfl⟩
      have hb6 : Below w.heap.size w W6 := by rw [hW6]; exact HB5.out.alloc HB5.out.size _
      have hl6 : Sl W6 W6.heap.size (.slice (some ⟨w5.heap.size, 0, none⟩) 4 4) [t0, t1, t2, t3] := by rw [hW6]; exact Sl.lit w5 141 [t0, t1, t2, t3] _ (by simp) (by simp)
      have ho6 : W6.ownsRow w.heap.size 5 1 (.slice A3 (1 + b.length) c3) (1 + b.length) (Lib.byteCells (kind :: b)) := by rw [hW6]; exact HO5.out.alloc _
      have HO6 := Lib.hid ho6
      have HB6 := Lib.hid hb6
      have HL6 := Lib.hid hl6
      clear hb6 hl6 ho6
      go_wp2_with (at_builtin; refine wpList_append_sl rfl _ _ 22 rfl w.heap.size 5 i0 _ Tryz.underlying22 hi hz0 hz1 hz2 rfl _ _ _ rfl (by rw [← hW6]; exact HO6.out) W6.heap.size (some ⟨w5.heap.size, 0, none⟩) 4 4 [t0, t1, t2, t3] rfl (by rw [← hW6]; exact HL6.out) (by have := HNb.out; simp; omega) (by rw [← hW6]; exact HB6.out.size) ?_; rw [← hW6]; intro v7 w7 hown7 hg7; have HB7 := Lib.hid (HB6.out.grown hg7 HB6.out.size (fun k hk => (HO6.out.lt k hk).1)); have HO7 := Lib.hid hown7; clear hown7 hg7)
      go_ret2
      refine ⟨_, rfl, ?_, HB7.out⟩
      rw [HSS.out, HT.out]
      have := HO7.out
      have hlen : ((kind :: b) ++ [t0, t1, t2, t3]).length = 1 + b.length + [t0, t1, t2, t3].length := by simp; omega
      rw [hlen]
      simpa [Lib.byteCells] using this

end Go.Proofs.YtfblgkcipnkhaaaGreatDoor.pk

/-
  The program's own opening: walked.
-/
namespace Go.Proofs.YtfblgkcipnkhaaaGreatDoor.pk
open Go Go.RowKit
set_option maxRecDepth 100000

/-- Two arrays of four bytes, compared. -/
theorem eq_four (x0 x1 x2 x3 y0 y1 y2 y3 : UInt8) (w : World) :
    (Op.equalIn 10000 141 (.agg #[.int .u8 (x0.toNat : Int), .int .u8 (x1.toNat : Int), .int .u8 (x2.toNat : Int), .int .u8 (x3.toNat : Int)]) (.agg #[.int .u8 (y0.toNat : Int), .int .u8 (y1.toNat : Int), .int .u8 (y2.toNat : Int), .int .u8 (y3.toNat : Int)])).run Tryz.prog w = .ok ([x0, x1, x2, x3] == [y0, y1, y2, y3]) w := by
  have h := run_equalIn_bytes (P := Tryz.prog) w 9998 141 5 4 Tryz.underlying141 Tryz.underlying5 (fun _ => by kernel_rfl) [x0, x1, x2, x3] [y0, y1, y2, y3] rfl rfl
  have e : ∀ a b c d : UInt8, (([a, b, c, d].map Extern.Stop.cell).toArray : Array Value) = #[.int .u8 (a.toNat : Int), .int .u8 (b.toNat : Int), .int .u8 (c.toNat : Int), .int .u8 (d.toNat : Int)] := fun _ _ _ _ => rfl
  rw [e, e] at h
  exact h

set_option maxHeartbeats 2000000 in
theorem Open_any (A : Option Addr) (n c : Nat) (b : List UInt8) (w : World) (B : Nat) (hB : B ≤ w.heap.size) (h : Sl w B (.slice A n c) b) :
    Calls Tryz.prog 55 #[.slice A n c] w fun x w' => ∃ v, x = .returned (.tuple #[.int .u8 ((openK b).toNat : Int), v, er (openE b)]) ∧ Sl w' w'.heap.size v (openX b) ∧ Below w.heap.size w w' := by
  obtain ⟨i0, hi, hz0, hz1, hz2⟩ := info_parts info_u8
  obtain ⟨hn, hc1, hc2⟩ := h.len
  by_cases h5 : b.length < 5
  · have he : openE b = 12 := by unfold openE; rw [if_pos h5]
    have hk : openK b = 0 := by unfold openK; rw [he]; rfl
    have hx : openX b = [] := by unfold openX; rw [he]; rfl
    have i1 : (n : Int) < 5 := by omega
    rw [he, hk, hx]
    clear he hk hx hn h h5
    go_enter Tryz.func55, Tryz.ntmps55
    go_wp2
    go_ret3
    exact ⟨_, rfl, Sl.nil_ _ _, Below.refl _ _⟩
  · obtain ⟨k0, r, rfl⟩ : ∃ k0 r, b = k0 :: r := by
      cases b with
      | nil => simp at h5
      | cons a r => exact ⟨a, r, rfl⟩
    obtain ⟨bk, off, rfl, hbk, hn1, hcc, hcm, hc0⟩ := h.head
    obtain ⟨m, hm⟩ : ∃ m, m = n - 4 := ⟨_, rfl⟩
    have hmn : m = (k0 :: r).length - 4 := by omega
    have hfr := h.front (k := m) (by omega)
    have hct := h.cut (k := m) (by omega)
    rw [if_neg (by omega), show n - m = 4 from by omega] at hct
    simp only [Option.map_some, Lib.add_plain] at hct
    have hc1' := hfr.cut (k := 1) (by rw [List.length_take]; omega)
    rw [if_neg (by omega)] at hc1'
    simp only [Option.map_some, Lib.add_plain] at hc1'
    obtain ⟨d0, d1, d2, d3, hD⟩ : ∃ d0 d1 d2 d3 : UInt8, (k0 :: r).drop m = [d0, d1, d2, d3] := by
      have hl : ((k0 :: r).drop m).length = 4 := by rw [List.length_drop]; omega
      match hdd : (k0 :: r).drop m, hl with
      | [d0, d1, d2, d3], _ => exact ⟨d0, d1, d2, d3, rfl⟩
    have HQ : Hid (∀ W, Below w.heap.size w W → W.cell? ⟨bk, off + m, none⟩ = some (.int .u8 (d0.toNat : Int)) ∧ W.cell? ⟨bk, off + m + 1, none⟩ = some (.int .u8 (d1.toNat : Int)) ∧ W.cell? ⟨bk, off + m + 2, none⟩ = some (.int .u8 (d2.toNat : Int)) ∧ W.cell? ⟨bk, off + m + 3, none⟩ = some (.int .u8 (d3.toNat : Int))) := by
      refine Lib.hid fun W hW => ?_
      have hx := hct.below (hW.mono hB)
      rw [hD] at hx
      obtain ⟨A', c', hv, _, _, h3⟩ := hx
      injection hv with e1 _ _
      rcases h3 with h3 | ⟨b2, off2, hA2, _, hcell⟩
      · cases h3
      · rw [hA2] at e1
        injection e1 with e1
        injection e1 with e1 e2 _
        subst e1; subst e2
        exact ⟨hcell 0 (by simp), hcell 1 (by simp), hcell 2 (by simp), hcell 3 (by simp)⟩
    have hE : openE (k0 :: r) = if tail4 (sum ((k0 :: r).take m)) ≠ (k0 :: r).drop m then 11 else if k0 = 0 then 1 else if 1048577 < m then 2 else 0 := by
      unfold openE
      rw [if_neg h5, ← hmn]
      rfl
    have hX : openX (k0 :: r) = if openE (k0 :: r) = 0 then ((k0 :: r).take m).drop 1 else [] := by unfold openX; rw [← hmn]
    have hK : openK (k0 :: r) = if openE (k0 :: r) = 0 then k0 else 0 := rfl
    have HS := Lib.hid (sum_lt ((k0 :: r).take m))
    have HFL := Lib.hid (show ((k0 :: r).take m).length = m from by rw [List.length_take]; omega)
    rw [hD] at hE
    obtain ⟨t0, t1, t2, t3, ht⟩ := tail4_four (sum ((k0 :: r).take m))
    rw [ht] at hE
    have HT := Lib.hid ht
    have HC0 := Lib.hid hc0
    have HFR := Lib.hid hfr
    have HX1 := Lib.hid hc1'
    have HE := Lib.hid hE
    have HX := Lib.hid hX
    have HKK := Lib.hid hK
    have HM := Lib.hid (show 1 ≤ m ∧ m + 4 = n by omega)
    have hat : ∀ W, (Instr.arrayAt 141 (.slice (some ⟨bk, off + m, none⟩) 4 (c - m))).run Tryz.prog W = .ok (.pointer (some ⟨bk, off + m, none⟩)) W := fun W => run_arrayAt W 141 _ 4 _ 4 (c - m) Tryz.underlying141 (Nat.le_refl _)
    have hat' := Lib.hid hat
    have i1 : ¬ (n : Int) < 5 := by omega
    have i2 : (n : Int) - 4 = (m : Int) := by omega
    have i3 : IntKind.i64.wrap (m : Int) = (m : Int) := IntWalk.i64_in _ (by omega)
    have i4 : (m : Int) ≤ (n : Int) := by omega
    have i5 : (n : Int) ≤ (c : Int) := by omega
    have i6 : (1 : Int) ≤ (m : Int) := by omega
    have i7 : (m : Int) ≤ (c : Int) := by omega
    have i8 : (0 : Int) < (n : Int) := by omega
    have i10 : ¬ c = m := by omega
    have i11 : ¬ c = 1 := by omega
    have i9 : (c : Int) ≤ 9223372036854775807 := by omega
    obtain ⟨F, hF⟩ : ∃ F, F = (k0 :: r).take m := ⟨_, rfl⟩
    have hgap : n - m = 4 := by omega
    rw [← hF] at HFR HX1 HX HS HT HFL
    have q0 := HC0.out
    clear hm hmn hfr hct hc1' hc0 hE hX hK hF h hn h5 hn1 hcc hcm hc1 hc2 hat hD ht
    go_enter Tryz.func55, Tryz.ntmps55
    go_wp2_with fail
    go_region
    go_wp2_with fail
    have hd : Below w.heap.size w w.drew.drew := (Below.refl _ _).drew.drew
    have HD := Lib.hid hd
    refine wp_region_held_drew (S := fun W => Below w.heap.size w W) (by kernel_rfl) hd (fun hHeld => ?_)
    clear hd q0
    refine wpAnyH_take (i := 0) (oi := { dst := Option.some 22, op := Op.move (Operand.tmp 0), type := 22, pos := "seal.go:59", after := #[], guard := Option.none }) (v := .slice (some ⟨bk, off, none⟩) n c) rfl (by kernel_rfl) (by kernel_rfl) (by kernel_rfl) (fun _ _ _ h => h) (Or.inl ⟨by rfl, ?_⟩) hHeld ?_
    · intro W hSw
      go_simp
    simp only [Act.put, List.setIfInBounds_toArray, List.set_cons_zero, List.set_cons_succ]
    refine wpAnyH_take (i := 1) (oi := { dst := Option.some 23, op := Op.move (Operand.tmp 5), type := 3, pos := "seal.go:59", after := #[], guard := Option.none }) (v := .int .i64 (m : Int)) rfl (by kernel_rfl) (by kernel_rfl) (by kernel_rfl) (fun _ _ _ h => h) (Or.inl ⟨by rfl, ?_⟩) hHeld ?_
    · intro W hSw
      go_simp
    simp only [Act.put, List.setIfInBounds_toArray, List.set_cons_zero, List.set_cons_succ]
    refine wpAnyH_take (i := 2) (oi := { dst := Option.some 24, op := Op.slice 22 (Operand.tmp 22) (Option.some (Operand.tmp 23)) Option.none Option.none, type := 22, pos := "seal.go:59", after := #[{ on := 0, ground := Ground.data }, { on := 1, ground := Ground.data }], guard := Option.none }) (v := .slice (some ⟨bk, off + m, none⟩) 4 (c - m)) rfl (by kernel_rfl) (by kernel_rfl) (by kernel_rfl) (fun _ _ _ h => h) (Or.inl ⟨by rfl, ?_⟩) hHeld ?_
    · intro W hSw
      go_simp
    simp only [Act.put, List.setIfInBounds_toArray, List.set_cons_zero, List.set_cons_succ]
    refine wpAnyH_take (i := 3) (oi := { dst := Option.some 25, op := Op.sliceToArrayPointer 141 (Operand.tmp 24), type := 0, pos := "seal.go:59", after := #[{ on := 2, ground := Ground.data }], guard := Option.none }) (v := .pointer (some ⟨bk, off + m, none⟩)) rfl (by kernel_rfl) (by kernel_rfl) (by kernel_rfl) (fun _ _ _ h => h) (Or.inl ⟨by rfl, ?_⟩) hHeld ?_
    · intro W hSw
      have hat := hat'.out
      go_simp
    simp only [Act.put, List.setIfInBounds_toArray, List.set_cons_zero, List.set_cons_succ]
    refine wpAnyH_take (i := 4) (oi := { dst := Option.some 26, op := Op.load 141 (Operand.tmp 25), type := 141, pos := "seal.go:59", after := #[{ on := 3, ground := Ground.data }], guard := Option.none }) (v := .agg #[.int .u8 (d0.toNat : Int), .int .u8 (d1.toNat : Int), .int .u8 (d2.toNat : Int), .int .u8 (d3.toNat : Int)]) rfl (by kernel_rfl) (by kernel_rfl) (by kernel_rfl) (fun _ _ _ h => h) (Or.inl ⟨by rfl, ?_⟩) hHeld ?_
    · intro W hSw
      obtain ⟨q0, q1, q2, q3⟩ := HQ.out W hSw
      go_simp
    simp only [Act.put, List.setIfInBounds_toArray, List.set_cons_zero, List.set_cons_succ]
    refine wpAnyH_take (i := 5) (oi := { dst := Option.some 27, op := Op.move (Operand.tmp 0), type := 22, pos := "seal.go:59", after := #[], guard := Option.none }) (v := .slice (some ⟨bk, off, none⟩) n c) rfl (by kernel_rfl) (by kernel_rfl) (by kernel_rfl) (fun _ _ _ h => h) (Or.inl ⟨by rfl, ?_⟩) hHeld ?_
    · intro W hSw
      go_simp
    simp only [Act.put, List.setIfInBounds_toArray, List.set_cons_zero, List.set_cons_succ]
    refine wpAnyH_take (i := 6) (oi := { dst := Option.some 28, op := Op.move (Operand.tmp 5), type := 3, pos := "seal.go:59", after := #[], guard := Option.none }) (v := .int .i64 (m : Int)) rfl (by kernel_rfl) (by kernel_rfl) (by kernel_rfl) (fun _ _ _ h => h) (Or.inl ⟨by rfl, ?_⟩) hHeld ?_
    · intro W hSw
      go_simp
    simp only [Act.put, List.setIfInBounds_toArray, List.set_cons_zero, List.set_cons_succ]
    refine wpAnyH_take (i := 7) (oi := { dst := Option.some 29, op := Op.slice 22 (Operand.tmp 27) Option.none (Option.some (Operand.tmp 28)) Option.none, type := 22, pos := "seal.go:59", after := #[{ on := 5, ground := Ground.data }, { on := 6, ground := Ground.data }], guard := Option.none }) (v := .slice (some ⟨bk, off, none⟩) m c) rfl (by kernel_rfl) (by kernel_rfl) (by kernel_rfl) (fun _ _ _ h => h) (Or.inl ⟨by rfl, ?_⟩) hHeld ?_
    · intro W hSw
      go_simp
    simp only [Act.put, List.setIfInBounds_toArray, List.set_cons_zero, List.set_cons_succ]
    refine wpAnyH_ready (rs := [8]) (by kernel_rfl) (by simp) ?_
    refine AllReadyH.cons (o := { dst := Option.some 30, op := Op.call { callee := Callee.value (Operand.func 83), args := #[Operand.tmp 29], argTypes := #[22] }, type := 92, pos := "seal.go:59", after := #[{ on := 7, ground := Ground.data }], guard := Option.none }) rfl (fun K hK => ?_) AllReadyH.nil
    go_simp
    refine (Sum_any (some ⟨bk, off, none⟩) m c F _ B (HFR.out.below (HD.out.mono hB))).mono ?_
    rintro y w4 ⟨rfl, rfl⟩
    refine hK.out _ _ hHeld (fun hHeld => ?_)
    clear hK K
    refine wpAnyH_ready (rs := [9]) (by kernel_rfl) (by simp) ?_
    refine AllReadyH.cons (o := { dst := Option.some 31, op := Op.call { callee := Callee.value (Operand.func 82), args := #[Operand.tmp 30], argTypes := #[92] }, type := 141, pos := "seal.go:59", after := #[{ on := 8, ground := Ground.data }, { on := 8, ground := Ground.chain }], guard := Option.none }) rfl (fun K hK => ?_) AllReadyH.nil
    go_simp
    refine (SumBytes_any _ HS.out t0 t1 t2 t3 HT.out _).mono ?_
    rintro y w5 ⟨rfl, hb5⟩
    have hbw5 : Below w.heap.size w w5 := HD.out.trans (hb5.mono HD.out.size)
    have HB5 := Lib.hid hbw5
    clear hb5 hHeld
    refine hK.out _ _ hbw5 (fun hHeld => ?_)
    clear hK K hbw5
    have q5 : w5.cell? ⟨bk, off, none⟩ = some (.int .u8 (k0.toNat : Int)) := (HB5.out.cell (p := ⟨bk, off, none⟩) (by show bk < w.heap.size; omega)).trans HC0.out
    clear q5
    have HX5 := Lib.hid (HX1.out.below (HB5.out.mono hB))
    have hfl1 : (F.drop 1).length = m - 1 := by rw [List.length_drop, HFL.out]
    have HFL1 := Lib.hid hfl1
    clear hfl1
    by_cases hTD : [t0, t1, t2, t3] = [d0, d1, d2, d3]
    · have hE2 := HE.out
      rw [if_neg (by rw [hTD]; simp)] at hE2
      have HE2 := Lib.hid hE2
      have HEQ : Hid (∀ W : World, (Op.equalIn 10000 141 (.agg #[.int .u8 (d0.toNat : Int), .int .u8 (d1.toNat : Int), .int .u8 (d2.toNat : Int), .int .u8 (d3.toNat : Int)]) (.agg #[.int .u8 (t0.toNat : Int), .int .u8 (t1.toNat : Int), .int .u8 (t2.toNat : Int), .int .u8 (t3.toNat : Int)])).run Tryz.prog W = .ok true W) :=
        Lib.hid fun W => by rw [eq_four, ← hTD]; simp
      clear hE2 HE hTD
      refine wpAnyH_take (i := 10) (oi := { dst := Option.some 32, op := Op.binOp BinOp.neq 141 (Operand.tmp 26) (Operand.tmp 31) 141, type := 4, pos := "seal.go:59", after := #[{ on := 4, ground := Ground.data }, { on := 9, ground := Ground.data }], guard := Option.none }) (v := .bool false) rfl (by kernel_rfl) (by kernel_rfl) (by kernel_rfl) (fun _ _ _ h => h) (Or.inl ⟨by rfl, ?_⟩) hHeld ?_
      · intro W hSw
        have heq := HEQ.out W
        go_simp
      simp only [Act.put, List.setIfInBounds_toArray, List.set_cons_zero, List.set_cons_succ]
      refine wpAnyH_take (i := 11) (oi := { dst := Option.some 21, op := Op.assign (Operand.tmp 32), type := 4, pos := "seal.go:59", after := #[{ on := 10, ground := Ground.data }, { on := 9, ground := Ground.chain }], guard := Option.none }) (v := .bool false) rfl (by kernel_rfl) (by kernel_rfl) (by kernel_rfl) (fun _ _ _ h => h) (Or.inl ⟨by rfl, ?_⟩) hHeld ?_
      · intro W hSw
        go_simp
      simp only [Act.put, List.setIfInBounds_toArray, List.set_cons_zero, List.set_cons_succ]
      refine wpAnyH_done (by kernel_rfl) ?_ _
      by_cases hk0 : k0 = 0
      · have hk0I : (k0.toNat : Int) = 0 := by rw [hk0]; rfl
        have he : openE (k0 :: r) = 1 := by rw [HE2.out, if_pos hk0]
        have hkk : openK (k0 :: r) = 0 := by rw [HKK.out, he]; rfl
        have hx : openX (k0 :: r) = [] := by rw [HX.out, he]; rfl
        have HR := Lib.hid (And.intro he (And.intro hkk hx))
        clear hk0 he hkk hx HE2 HKK HX
        go_wp2_with fail
        go_ret3
        rw [HR.out.1, HR.out.2.1, HR.out.2.2]
        exact ⟨_, rfl, Sl.nil_ _ _, HB5.out⟩
      · have hk00 : ¬ k0.toNat = 0 := fun e => hk0 (UInt8.toNat_inj.1 (by rw [e]; rfl))
        have hk0I : ¬ (k0.toNat : Int) = 0 := by omega
        have hk0B : ((k0.toNat : Int) == 0) = false := by rw [beq_eq_false_iff_ne]; exact hk0I
        by_cases hl : 1048577 < m
        · have he : openE (k0 :: r) = 2 := by rw [HE2.out, if_neg hk0, if_pos hl]
          have hkk : openK (k0 :: r) = 0 := by rw [HKK.out, he]; rfl
          have hx : openX (k0 :: r) = [] := by rw [HX.out, he]; rfl
          have HR := Lib.hid (And.intro he (And.intro hkk hx))
          have j1 : (1048576 : Int) < ((m - 1 : Nat) : Int) := by omega
          clear hk0 he hkk hx HE2 HKK HX hk00 hl
          go_wp2_with fail
          go_ret3
          rw [HR.out.1, HR.out.2.1, HR.out.2.2]
          exact ⟨_, rfl, Sl.nil_ _ _, HB5.out⟩
        · have he : openE (k0 :: r) = 0 := by rw [HE2.out, if_neg hk0, if_neg hl]
          have hkk : openK (k0 :: r) = k0 := by rw [HKK.out, if_pos he]
          have hx : openX (k0 :: r) = F.drop 1 := by rw [HX.out, if_pos he]
          have HR := Lib.hid (And.intro he (And.intro hkk hx))
          have j1 : ¬ (1048576 : Int) < ((m - 1 : Nat) : Int) := by omega
          have HL := Lib.hid (show m - 1 ≤ 1048576 by omega)
          clear hk0 he hkk hx HE2 HKK HX hk00 hl
          go_wp2_with (at_builtin; refine wpList_append_sl rfl _ _ 22 rfl w.heap.size 5 i0 _ Tryz.underlying22 hi hz0 hz1 hz2 rfl (.slice none 0 0) 0 [] rfl (World.ownsRow_nil _ _ _ _) B (some ⟨bk, off + 1, none⟩) (m - 1) (c - 1) (F.drop 1) rfl HX5.out (by have := HL.out; rw [HFL1.out]; omega) HB5.out.size ?_; intro v7 w7 hown7 hg7; have HB7 := Lib.hid (HB5.out.grown hg7 HB5.out.size (fun k hk => by cases hk)); have HO7 := Lib.hid hown7; clear hown7 hg7)
          go_ret3
          rw [HR.out.1, HR.out.2.1, HR.out.2.2]
          have ho7 := HO7.out
          rw [Nat.zero_add, List.nil_append] at ho7
          obtain ⟨A9, c9, hv9, hs9⟩ := own_sl ho7 rfl
          exact ⟨_, rfl, by rw [hv9]; exact hs9, HB7.out⟩
    · have hE2 := HE.out
      rw [if_pos hTD] at hE2
      have hkk : openK (k0 :: r) = 0 := by rw [HKK.out, hE2]; rfl
      have hx : openX (k0 :: r) = [] := by rw [HX.out, hE2]; rfl
      have HR := Lib.hid (And.intro hE2 (And.intro hkk hx))
      have HEQ : Hid (∀ W : World, (Op.equalIn 10000 141 (.agg #[.int .u8 (d0.toNat : Int), .int .u8 (d1.toNat : Int), .int .u8 (d2.toNat : Int), .int .u8 (d3.toNat : Int)]) (.agg #[.int .u8 (t0.toNat : Int), .int .u8 (t1.toNat : Int), .int .u8 (t2.toNat : Int), .int .u8 (t3.toNat : Int)])).run Tryz.prog W = .ok false W) :=
        Lib.hid fun W => by rw [eq_four, beq_eq_false_iff_ne.2 (fun e => hTD e.symm)]
      clear hE2 HE hTD hkk hx HKK HX
      refine wpAnyH_take (i := 10) (oi := { dst := Option.some 32, op := Op.binOp BinOp.neq 141 (Operand.tmp 26) (Operand.tmp 31) 141, type := 4, pos := "seal.go:59", after := #[{ on := 4, ground := Ground.data }, { on := 9, ground := Ground.data }], guard := Option.none }) (v := .bool true) rfl (by kernel_rfl) (by kernel_rfl) (by kernel_rfl) (fun _ _ _ h => h) (Or.inl ⟨by rfl, ?_⟩) hHeld ?_
      · intro W hSw
        have heq := HEQ.out W
        go_simp
      simp only [Act.put, List.setIfInBounds_toArray, List.set_cons_zero, List.set_cons_succ]
      refine wpAnyH_take (i := 11) (oi := { dst := Option.some 21, op := Op.assign (Operand.tmp 32), type := 4, pos := "seal.go:59", after := #[{ on := 10, ground := Ground.data }, { on := 9, ground := Ground.chain }], guard := Option.none }) (v := .bool true) rfl (by kernel_rfl) (by kernel_rfl) (by kernel_rfl) (fun _ _ _ h => h) (Or.inl ⟨by rfl, ?_⟩) hHeld ?_
      · intro W hSw
        go_simp
      simp only [Act.put, List.setIfInBounds_toArray, List.set_cons_zero, List.set_cons_succ]
      refine wpAnyH_done (by kernel_rfl) ?_ _
      go_wp2_with fail
      go_ret3
      rw [HR.out.1, HR.out.2.1, HR.out.2.2]
      exact ⟨_, rfl, Sl.nil_ _ _, HB5.out⟩

end Go.Proofs.YtfblgkcipnkhaaaGreatDoor.pk
