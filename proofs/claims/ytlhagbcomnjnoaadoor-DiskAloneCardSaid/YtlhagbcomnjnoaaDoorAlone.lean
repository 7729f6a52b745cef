/-
  The law DiskAlone's own walk: a clone goes its own way, and does the same when the same is done to it.
-/
import Derived.Test.YtlhagbcomnjnoaaDoorTwin
import Derived.Test.YtlhagbcomnjnoaaDoorSureD
namespace Go.Proofs.YtlhagbcomnjnoaaDoor.pk
open Go Go.RowKit
set_option maxRecDepth 100000

/-- What acts make of a disk. -/
def runD (d : Dk) (l : List Ac) : Dk := l.foldl actD d
theorem runD_next (d : Dk) (l : List Ac) (i : Nat) (hi : i < l.length) : runD d (l.take (i + 1)) = actD (runD d (l.take i)) l[i] := by
  unfold runD
  rw [List.take_succ_eq_append_getElem hi, List.foldl_append]
  rfl

/-- Of a disk's blocks those that it shares with nobody. -/
def Own (C : ConD) (S : Nat → Prop) : Nat → Prop := fun k => S k ∧ ¬ C.R k
/-- Beside another disk that has gone on. -/
theorem Live.mate {C : ConD} {w0 w w' : World} {S Sp Sp' : Nat → Prop} {p q : Nat} {d dp dp' : Dk} (h : Live C w0 w S q d) (t : C.DK w Sp p dp) (t' : C.DK w' Sp' p dp') (hk : ∀ k, S k → ¬ C.R k → w'.heap[k]? = w.heap[k]?) (hb : Below w0.heap.size w0 w') : Live C w0 w' S q d :=
  ⟨C.frame h.dk fun k hs => by
    by_cases hr : C.R k
    · exact (C.pin t' k hr).2.trans (C.pin t k hr).2.symm
    · exact hk k hs hr, h.low, hb⟩

/-- The first disk and its variable, while the clone goes on. -/
structure Side (C : ConD) (w0 w : World) (Sc Zc : Nat → Prop) (p : Nat) (S : Nat → Prop) (b b2 : Nat) (vB vL : Value) (d : Dk) : Prop where
  live : Live C w0 w S p d
  rd : RD w (Av w (fun k => Sc k ∨ Zc k)) vB vL d
  box : w.heap[b]? = some (bxo vB vL d)
  sc : ∀ k, Sc k → ¬ Zc k
  sz : ∀ k, S k → Zc k ∨ C.R k
  zb : Zc b
  z2 : Zc b2
  ne : b ≠ b2
  nb : ¬ S b
  n2 : ¬ S b2

theorem Side.go0 {C : ConD} {w0 w w' : World} {Sc Sc' Zc S : Nat → Prop} {p b b2 : Nat} {vB vL : Value} {d : Dk} (h : Side C w0 w Sc Zc p S b b2 vB vL d) (hl : Live C w0 w' S p d)
    (hk : ∀ k, k < w.heap.size → ¬ Sc k → k ≠ b2 → w'.heap[k]? = w.heap[k]?) (hs : w.heap.size ≤ w'.heap.size) (hn : ∀ k, Sc' k → Sc k ∨ w.heap.size ≤ k) (hsc : ∀ k, Sc' k → ¬ Zc k) : Side C w0 w' Sc' Zc p S b b2 vB vL d := by
  refine ⟨hl, ?_, (hk b (bx_lt h.box) (fun hx => h.sc b hx h.zb) h.ne).trans h.box, hsc, h.sz, h.zb, h.z2, h.ne, h.nb, h.n2⟩
  refine (h.rd.kept fun k hk' _ => hk k hk'.1 (fun hx => hk'.2 (Or.inl hx)) (fun e => hk'.2 (Or.inr (by rw [e]; exact h.z2)))).mono fun k hk' => ⟨by have := hk'.1; omega, fun hx => ?_⟩
  rcases hx with hx | hx
  · rcases hn k hx with h1 | h1
    · exact hk'.2 (Or.inl h1)
    · have := hk'.1; omega
  · exact hk'.2 (Or.inr hx)
theorem Side.go {C : ConD} {w0 w w' : World} {Sc Sc' Zc S : Nat → Prop} {p q b b2 : Nat} {vB vL : Value} {d dc dc' : Dk} (h : Side C w0 w Sc Zc p S b b2 vB vL d) (hc : Live C w0 w Sc q dc) (hc' : Live C w0 w' Sc' q dc')
    (hk : ∀ k, k < w.heap.size → ¬ Sc k → k ≠ b2 → w'.heap[k]? = w.heap[k]?) (hs : w.heap.size ≤ w'.heap.size) (hn : ∀ k, Sc' k → Sc k ∨ w.heap.size ≤ k) (hsc : ∀ k, Sc' k → ¬ Zc k) : Side C w0 w' Sc' Zc p S b b2 vB vL d :=
  h.go0 (h.live.mate hc.dk hc'.dk (fun k hk' hr => hk k (C.foot h.live.dk k hk') (fun hx => by
    rcases h.sz k hk' with h1 | h1
    · exact h.sc k hx h1
    · exact hr h1) (fun e => h.n2 (by rw [← e]; exact hk'))) hc'.below) hk hs hn hsc
theorem Side.more {C : ConD} {w0 w w' : World} {Sc Zc S : Nat → Prop} {p b b2 : Nat} {vB vL : Value} {d : Dk} (h : Side C w0 w Sc Zc p S b b2 vB vL d) (hb : Below w.heap.size w w') : Side C w0 w' Sc Zc p S b b2 vB vL d :=
  h.go0 (h.live.more hb) (fun k hk _ _ => hb.block k hk) hb.size (fun _ hx => Or.inl hx) h.sc

theorem twin_clone {C C' : ConD} {w0 w w' : World} {S S5 : Nat → Prop} {p q b : Nat} {vB vL : Value} {d : Dk} (h : Twin C w0 w S (fun k => k = b) p b vB vL d) (hdk0 : C'.DK w' S p d) (hdk : C'.DK w' S5 q d) (hsh : ∀ k, S k → S5 k → C'.R k) (hfr : ∀ k, S5 k → S k ∨ w.heap.size ≤ k) (hb : Below w.heap.size w w') :
    Twin C' w0 (w'.alloc (bxo vB vL d)) S5 (fun k => Own C' S k ∨ (k = b ∨ k = w'.heap.size)) q w'.heap.size vB vL d ∧
      Side C' w0 (w'.alloc (bxo vB vL d)) S5 (fun k => Own C' S k ∨ (k = b ∨ k = w'.heap.size)) p S b w'.heap.size vB vL d := by
  have hb2 : Below w.heap.size w (w'.alloc (bxo vB vL d)) := hb.alloc hb.size _
  have hsz : (w'.alloc (bxo vB vL d)).heap.size = w'.heap.size + 1 := by rw [World.size_alloc]
  have hS := C.foot h.live.dk
  have hbl := bx_lt h.box
  have hf5 := C'.foot hdk
  have hf0 := C'.foot hdk0
  have hsl := hb.size
  have hlow := h.live.size
  have hzl := h.zl b rfl
  have hB2 : Below w0.heap.size w0 (w'.alloc (bxo vB vL d)) := h.live.below.trans (hb2.mono hlow)
  have hrd : RD (w'.alloc (bxo vB vL d)) (Av (w'.alloc (bxo vB vL d)) (fun k => S5 k ∨ (Own C' S k ∨ (k = b ∨ k = w'.heap.size)))) vB vL d := by
    refine (h.rd.kept fun k _ hk => hb2.block k hk).mono fun k hk => ⟨by have := hk.1; omega, fun hx => ?_⟩
    have hlt := hk.1
    rcases hx with hx | hx | hx | hx
    · rcases hfr k hx with h1 | h1
      · exact hk.2 (Or.inl h1)
      · omega
    · exact hk.2 (Or.inl hx.1)
    · exact hk.2 (Or.inr hx)
    · omega
  have hsc : ∀ k, S5 k → ¬ (Own C' S k ∨ (k = b ∨ k = w'.heap.size)) := fun k hk hz => by
    have h2 := hf5 k hk
    rcases hz with hz | hz | hz
    · exact hz.2 (hsh k hz.1 hk)
    · rcases hfr k hk with h1 | h1
      · exact h.sz k h1 hz
      · omega
    · omega
  refine ⟨⟨⟨C'.frame hdk fun k hk => Below.heap_alloc w' _ k (hf5 k hk), fun k hk => ?_, hB2⟩, hrd, heap_alloc_new w' _, Or.inr (Or.inr rfl), fun k hk => ?_, fun k hk => ?_, hsc⟩, ⟨⟨C'.frame hdk0 fun k hk => Below.heap_alloc w' _ k (hf0 k hk), h.live.low, hB2⟩, hrd, (hb2.block b hbl).trans h.box, hsc, fun k hk => ?_, Or.inr (Or.inl rfl), Or.inr (Or.inr rfl), by omega, fun hx => h.sz b hx rfl, fun hx => by have := hS _ hx; omega⟩⟩
  · rcases hfr k hk with h1 | h1
    · exact h.live.low k h1
    · omega
  · rcases hk with hk | hk | hk
    · exact h.live.low k hk.1
    · omega
    · omega
  · rcases hk with hk | hk | hk
    · have := hS k hk.1; omega
    · omega
    · omega
  · by_cases hr : C'.R k
    · exact Or.inr hr
    · exact Or.inl (Or.inl ⟨hk, hr⟩)
/-- Now the first one goes on. -/
theorem Side.twin {C : ConD} {w0 w : World} {Sc Zc S : Nat → Prop} {p q b b2 : Nat} {vB vL : Value} {d dc : Dk} (h : Side C w0 w Sc Zc p S b b2 vB vL d) (hc : Live C w0 w Sc q dc) (hz : ∀ k, Zc k → w0.heap.size ≤ k) : Twin C w0 w S (fun k => Own C Sc k ∨ k = b) p b vB vL d := by
  refine ⟨h.live, h.rd.mono fun k hk => ⟨hk.1, fun hx => ?_⟩, h.box, Or.inr rfl, fun k hk => ?_, fun k hk => ?_, fun k hk hx => ?_⟩
  · rcases hx with hx | hx | hx
    · rcases h.sz k hx with h1 | h1
      · exact hk.2 (Or.inr h1)
      · exact hk.2 (Or.inl (C.pin hc.dk k h1).1)
    · exact hk.2 (Or.inl hx.1)
    · exact hk.2 (Or.inr (by rw [hx]; exact h.zb))
  · rcases hk with hk | hk
    · exact hc.low k hk.1
    · exact hz k (by rw [hk]; exact h.zb)
  · rcases hk with hk | hk
    · exact C.foot hc.dk k hk.1
    · rw [hk]; exact bx_lt h.box
  · rcases hx with hx | hx
    · rcases h.sz k hk with h1 | h1
      · exact h.sc k hx.1 h1
      · exact hx.2 h1
    · exact h.nb (by rw [← hx]; exact hk)

set_option maxHeartbeats 16000000 in
theorem alone_true (C : ConD) (B : ConB ConE C) (E : ConE C) (A A' : Option Addr) (m c m' c' : Nat) (la lb : List Ac) (w : World) (hs : Std w) (ha : ActsT w (fun k => k < w.heap.size) (.slice A m c) la) (hb : ActsT w (fun k => k < w.heap.size) (.slice A' m' c') lb) :
    Calls Tryd.prog 4 #[.slice A m c, .slice A' m' c'] w fun x w' => x = .returned (.bool true) ∧ Below w.heap.size w w' := by
  obtain ⟨A1, c1, hv, hmc, hcm⟩ := ha.form
  injection hv with e1 e2 e3
  subst e1; subst e3
  obtain ⟨A2, c2, hv, hmc', hcm'⟩ := hb.form
  injection hv with e4 e5 e6
  subst e4; subst e6
  have HM := Lib.hid e2
  have HM' := Lib.hid e5
  have hmB : (m : Int) ≤ 9223372036854775807 := by omega
  have hmB' : (m' : Int) ≤ 9223372036854775807 := by omega
  have HA := Lib.hid ha
  have HBB := Lib.hid hb
  have HS := Lib.hid hs
  clear ha hb hs e2 e5 hmc hcm hmc' hcm'
  go_enter Tryd.func4, Tryd.ntmps4
  go_upto_region 5 with (first
    | (go_at_call 18; go_must (refine (RefNew_agg 60 _ rfl _ (by omega) (by omega)).mono ?_; rintro y w2 ⟨A5, n5, c5, rfl, hr2, hb2⟩; have R2 := Lib.hid hr2; have HB2 := Lib.hid hb2; clear hr2 hb2))
    | (go_at_call 17; go_must (refine (live_new B w 60 (by omega) (by omega) 60 rfl).mono ?_; rintro y w1 ⟨p, S, rfl, h1⟩; have L1 := Lib.hid h1; clear h1)))
  have ht2 := twin_new L1.out R2.out HB2.out
  obtain ⟨W3, hW3⟩ : ∃ W3, W3 = w2.alloc (.cells #[.slice A5 n5 c5, .slice none 0 0, .int .i64 (-1), .bool false] 41) := ⟨_, rfl⟩
  rw [← hW3] at ht2 ⊢
  generalize w2.heap.size = b at ht2 ⊢
  have T2 := Lib.hid ht2
  clear hW3 ht2
  go_upto_block 0 with fail
  go_cut [9] (fun _ W => ∃ (S3 : Nat → Prop) (A3 : Option Addr) (n3 c3 : Nat) (A4 : Option Addr) (n4 c4 : Nat) (d : Dk), Twin C w W S3 (fun k => k = b) p b (.slice A3 n3 c3) (.slice A4 n4 c4) d ∧ d.L.length ≤ 15)
  case first =>
    go_wp2_with fail
    go_loopw [9] (fun ii wr => ∃ (i : Nat) (S3 : Nat → Prop) (A3 : Option Addr) (n3 c3 : Nat) (A4 : Option Addr) (n4 c4 : Nat) (d : Dk), i ≤ 15 ∧ i ≤ m ∧ ii = .int .i64 (i : Int) ∧ Twin C w wr S3 (fun k => k = b) p b (.slice A3 n3 c3) (.slice A4 n4 c4) d ∧ d.L.length ≤ i) (fun ii _ => 15 - (intOf ii).toNat)
    case atStart => exact ⟨0, S, A5, n5, c5, none, 0, 0, newD 60, by omega, by omega, rfl, T2.out, Nat.le_refl _⟩
    case round =>
      obtain ⟨i, S3, A3, n3, c3, A4, n4, c4, d, hi, him, rfl, htw, hdl⟩ := hrel
      have TR := Lib.hid htw
      have HDL := Lib.hid hdl
      clear htw hdl
      by_cases hlt : i < m ∧ i < 15
      · obtain ⟨hlt1, hlt2⟩ := hlt
        obtain ⟨ab, ao, Ad, cd, Ak, ck, rfl, hab, hok, hc0, hc1, hc2, hc3, hc4, hsd, hsk⟩ := HA.out.at_ i (by have := HM.out; omega)
        obtain ⟨act, hact⟩ : ∃ act, act = la[i]'(by have := HM.out; omega) := ⟨_, rfl⟩
        rw [← hact] at hok hc0 hc1 hc2 hc3 hc4 hsd hsk
        obtain ⟨nd, hnd⟩ : ∃ nd, nd = act.data.length := ⟨_, rfl⟩
        obtain ⟨nk, hnk⟩ : ∃ nk, nk = act.keep.length := ⟨_, rfl⟩
        rw [← hnd] at hc3 hsd
        rw [← hnk] at hc4 hsk
        have HQ := Lib.hid (And.intro hab (And.intro hc0 (And.intro hc1 (And.intro hc2 (And.intro hc3 hc4)))))
        have HAC := Lib.hid (And.intro hok (And.intro hsd hsk))
        clear hab hok hc0 hc1 hc2 hc3 hc4 hsd hsk hact hnd hnk
        have i1 : (i : Int) < (m : Int) := by omega
        have i2 : (i : Int) < 15 := by omega
        have i0 : (0 : Int) ≤ (i : Int) := by omega
        obtain ⟨x0, x1, x2, x3, -⟩ := bx_cell TR.out.box
        go_wp2_with fail
        have hd0 : Below w.heap.size w wr.drew := TR.out.live.below.drew
        refine wp_region_held_drew (S := fun W => Below w.heap.size w W) (by kernel_rfl) hd0 (fun hHeld => ?_)
        clear hd0
        refine wpAnyH_take (i := 0) (oi := { dst := Option.some 43, op := Op.move (Operand.tmp 5), type := 23, pos := "law.go:193", after := #[], guard := Option.none }) (v := .pointer (some ⟨p, 0, none⟩)) rfl (by kernel_rfl) (by kernel_rfl) (by kernel_rfl) (fun _ _ _ h => h) (Or.inl ⟨by rfl, ?_⟩) hHeld ?_
        · intro W hSw
          go_simp
        simp only [Act.put, List.setIfInBounds_toArray, List.set_cons_zero, List.set_cons_succ]
        refine wpAnyH_take (i := 2) (oi := { dst := Option.some 45, op := Op.move (Operand.tmp 0), type := 22, pos := "law.go:193", after := #[], guard := Option.none }) (v := .slice (some ⟨ab, ao, none⟩) m c) rfl (by kernel_rfl) (by kernel_rfl) (by kernel_rfl) (fun _ _ _ h => h) (Or.inl ⟨by rfl, ?_⟩) hHeld ?_
        · intro W hSw
          have z0 := (hSw.cell (p := ⟨ab, ao + i * 5, none⟩) HQ.out.1).trans HQ.out.2.1; have z1 := (hSw.cell (p := ⟨ab, ao + i * 5 + 1, none⟩) HQ.out.1).trans HQ.out.2.2.1; have z2 := (hSw.cell (p := ⟨ab, ao + i * 5 + 2, none⟩) HQ.out.1).trans HQ.out.2.2.2.1; have z3 := (hSw.cell (p := ⟨ab, ao + i * 5 + 3, none⟩) HQ.out.1).trans HQ.out.2.2.2.2.1; have z4 := (hSw.cell (p := ⟨ab, ao + i * 5 + 4, none⟩) HQ.out.1).trans HQ.out.2.2.2.2.2
          go_simp
        simp only [Act.put, List.setIfInBounds_toArray, List.set_cons_zero, List.set_cons_succ]
        refine wpAnyH_take (i := 3) (oi := { dst := Option.some 46, op := Op.move (Operand.tmp 9), type := 3, pos := "law.go:193", after := #[], guard := Option.none }) (v := .int .i64 (i : Int)) rfl (by kernel_rfl) (by kernel_rfl) (by kernel_rfl) (fun _ _ _ h => h) (Or.inl ⟨by rfl, ?_⟩) hHeld ?_
        · intro W hSw
          have z0 := (hSw.cell (p := ⟨ab, ao + i * 5, none⟩) HQ.out.1).trans HQ.out.2.1; have z1 := (hSw.cell (p := ⟨ab, ao + i * 5 + 1, none⟩) HQ.out.1).trans HQ.out.2.2.1; have z2 := (hSw.cell (p := ⟨ab, ao + i * 5 + 2, none⟩) HQ.out.1).trans HQ.out.2.2.2.1; have z3 := (hSw.cell (p := ⟨ab, ao + i * 5 + 3, none⟩) HQ.out.1).trans HQ.out.2.2.2.2.1; have z4 := (hSw.cell (p := ⟨ab, ao + i * 5 + 4, none⟩) HQ.out.1).trans HQ.out.2.2.2.2.2
          go_simp
        simp only [Act.put, List.setIfInBounds_toArray, List.set_cons_zero, List.set_cons_succ]
        refine wpAnyH_take (i := 4) (oi := { dst := Option.some 47, op := Op.indexAddr 22 (Operand.tmp 45) (Operand.tmp 46), type := 0, pos := "law.go:193", after := #[{ on := 2, ground := Ground.data }, { on := 3, ground := Ground.data }], guard := Option.none }) (v := .pointer (some ⟨ab, ao + i * 5, none⟩)) rfl (by kernel_rfl) (by kernel_rfl) (by kernel_rfl) (fun _ _ _ h => h) (Or.inl ⟨by rfl, ?_⟩) hHeld ?_
        · intro W hSw
          have z0 := (hSw.cell (p := ⟨ab, ao + i * 5, none⟩) HQ.out.1).trans HQ.out.2.1; have z1 := (hSw.cell (p := ⟨ab, ao + i * 5 + 1, none⟩) HQ.out.1).trans HQ.out.2.2.1; have z2 := (hSw.cell (p := ⟨ab, ao + i * 5 + 2, none⟩) HQ.out.1).trans HQ.out.2.2.2.1; have z3 := (hSw.cell (p := ⟨ab, ao + i * 5 + 3, none⟩) HQ.out.1).trans HQ.out.2.2.2.2.1; have z4 := (hSw.cell (p := ⟨ab, ao + i * 5 + 4, none⟩) HQ.out.1).trans HQ.out.2.2.2.2.2
          go_simp
        simp only [Act.put, List.setIfInBounds_toArray, List.set_cons_zero, List.set_cons_succ]
        refine wpAnyH_take (i := 5) (oi := { dst := Option.some 48, op := Op.load 48 (Operand.tmp 47), type := 48, pos := "law.go:193", after := #[{ on := 4, ground := Ground.data }], guard := Option.none }) (v := .agg #[.int .i64 act.kind, .int .i64 act.at_, .int .i64 act.n, .slice Ad nd cd, .slice Ak nk ck]) rfl (by kernel_rfl) (by kernel_rfl) (by kernel_rfl) (fun _ _ _ h => h) (Or.inl ⟨by rfl, ?_⟩) hHeld ?_
        · intro W hSw
          have z0 := (hSw.cell (p := ⟨ab, ao + i * 5, none⟩) HQ.out.1).trans HQ.out.2.1; have z1 := (hSw.cell (p := ⟨ab, ao + i * 5 + 1, none⟩) HQ.out.1).trans HQ.out.2.2.1; have z2 := (hSw.cell (p := ⟨ab, ao + i * 5 + 2, none⟩) HQ.out.1).trans HQ.out.2.2.2.1; have z3 := (hSw.cell (p := ⟨ab, ao + i * 5 + 3, none⟩) HQ.out.1).trans HQ.out.2.2.2.2.1; have z4 := (hSw.cell (p := ⟨ab, ao + i * 5 + 4, none⟩) HQ.out.1).trans HQ.out.2.2.2.2.2
          go_simp
        simp only [Act.put, List.setIfInBounds_toArray, List.set_cons_zero, List.set_cons_succ]
        refine wpAnyH_ready (rs := [1]) (by kernel_rfl) (by simp) ?_
        refine AllReadyH.cons (o := { dst := Option.some 44, op := Op.load 41 (Operand.tmp 7), type := 41, pos := "law.go:193", after := #[], guard := Option.none }) rfl (fun K hK => ?_) AllReadyH.nil
        go_simp
        refine hK.out _ _ hHeld (fun hHeld => ?_)
        clear hK K x0 x1 x2 x3
        refine wpAnyH_ready (rs := [6]) (by kernel_rfl) (by simp) ?_
        refine AllReadyH.cons (o := { dst := Option.some 49, op := Op.call { callee := Callee.value (Operand.func 19), args := #[Operand.tmp 43, Operand.tmp 44, Operand.tmp 48], argTypes := #[23, 41, 48] }, type := 44, pos := "law.go:193", after := #[{ on := 0, ground := Ground.data }, { on := 1, ground := Ground.data }, { on := 5, ground := Ground.data }], guard := Option.none }) rfl (fun K hK => ?_) AllReadyH.nil
        go_simp
        refine (twin_step C E (TR.out.more (Below.refl _ _).drew) HS.out act Ad Ak nd cd nk ck HAC.out.1 HAC.out.2.1 HAC.out.2.2 (by have := HDL.out; omega)).mono ?_
        rintro y w7 ⟨S7, A7, n7, c7, A8, n8, c8, rfl, hn7, -⟩
        have HN7 := Lib.hid hn7
        refine hK.out _ _ hn7.live.below (fun hHeld => ?_)
        clear hK K hn7
        refine wpAnyH_take (i := 7) (oi := { dst := Option.some 42, op := Op.move (Operand.tmp 49), type := 44, pos := "law.go:193", after := #[{ on := 6, ground := Ground.data }], guard := Option.none }) (v := .tuple #[.agg #[.slice A7 n7 c7, .slice A8 n8 c8, .int .i64 (actD d act).armed, .bool (actD d act).off], .bool true]) rfl (by kernel_rfl) (by kernel_rfl) (by kernel_rfl) (fun _ _ _ h => h) (Or.inl ⟨by rfl, ?_⟩) hHeld ?_
        · intro W hSw
          go_simp
        simp only [Act.put, List.setIfInBounds_toArray, List.set_cons_zero, List.set_cons_succ]
        refine wpAnyH_take (i := 8) (oi := { dst := Option.some 50, op := Op.extract (Operand.tmp 42) 0, type := 41, pos := "law.go:193", after := #[{ on := 7, ground := Ground.data }], guard := Option.none }) (v := .agg #[.slice A7 n7 c7, .slice A8 n8 c8, .int .i64 (actD d act).armed, .bool (actD d act).off]) rfl (by kernel_rfl) (by kernel_rfl) (by kernel_rfl) (fun _ _ _ h => h) (Or.inl ⟨by rfl, ?_⟩) hHeld ?_
        · intro W hSw
          go_simp
        simp only [Act.put, List.setIfInBounds_toArray, List.set_cons_zero, List.set_cons_succ]
        refine wpAnyH_take (i := 9) (oi := { dst := Option.some 51, op := Op.extract (Operand.tmp 42) 1, type := 4, pos := "law.go:193", after := #[{ on := 7, ground := Ground.data }, { on := 10, ground := Ground.gcOnly Departure.lateStores }], guard := Option.none }) (v := .bool true) rfl (by kernel_rfl) (by kernel_rfl) (by kernel_rfl) (fun _ _ _ h => h) (Or.inl ⟨by rfl, ?_⟩) hHeld ?_
        · intro W hSw
          go_simp
        simp only [Act.put, List.setIfInBounds_toArray, List.set_cons_zero, List.set_cons_succ]
        obtain ⟨x0, x1, x2, x3, xf⟩ := bx_cell HN7.out.box
        have g0 := xf 0
        have g1 := xf 1
        have g2 := xf 2
        have g3 := xf 3
        clear xf
        refine wpAnyH_ready (rs := [10]) (by kernel_rfl) (by simp) ?_
        refine AllReadyH.cons (o := { dst := Option.none, op := Op.store 41 (Operand.tmp 7) (Operand.tmp 50), type := 0, pos := "law.go:193", after := #[{ on := 8, ground := Ground.data }, { on := 6, ground := Ground.chain }, { on := 0, ground := Ground.phase }, { on := 1, ground := Ground.phase }, { on := 2, ground := Ground.phase }, { on := 3, ground := Ground.phase }, { on := 4, ground := Ground.phase }, { on := 5, ground := Ground.phase }, { on := 6, ground := Ground.phase }, { on := 7, ground := Ground.phase }, { on := 8, ground := Ground.phase }, { on := 9, ground := Ground.textOnly Departure.lateStores }], guard := Option.none }) rfl (fun K hK => ?_) AllReadyH.nil
        go_simp
        have ht9 := HN7.out.put
        have T9 := Lib.hid ht9
        refine hK.out _ _ ht9.live.below (fun hHeld => ?_)
        clear hK K ht9 hHeld x0 x1 x2 x3 g0 g1 g2 g3
        refine wpAnyH_done (by kernel_rfl) ?_ _
        go_wp2_with fail
        go_roundw
        case rel => exact ⟨i + 1, S7, A7, n7, c7, A8, n8, c8, _, by omega, by omega, by go_num, T9.out, Nat.le_trans (actD_lenL d act) (Nat.succ_le_succ HDL.out)⟩
        case measure => simp [intOf]; omega
      · have hge : ¬ ((i : Int) < (m : Int)) ∨ ((i : Int) < (m : Int) ∧ ¬ (i : Int) < 15) := by omega
        clear hlt
        rcases hge with hge | ⟨hge1, hge2⟩
        all_goals
          go_wp2_with fail
          go_meet
          exact ⟨S3, A3, n3, c3, A4, n4, c4, d, TR.out, by have := HDL.out; omega⟩
  case rest =>
    obtain ⟨S3, A3, n3, c3, A4, n4, c4, dA, htw, hdl⟩ := hcut
    have TR := Lib.hid htw
    have HDA := Lib.hid hdl
    clear htw hdl
    go_upto_region 12 with (go_at_call 15; go_must (refine (B.cClone _ S3 p dA TR.out.live.dk (by have := HDA.out; omega)).mono ?_; rintro y w4 ⟨q, S5, C5, rfl, E5, hdk0, hdk, hsh, hfr, hb4⟩; have T4 := Lib.hid (TR.out.more hb4); have HTC := Lib.hid (twin_clone TR.out hdk0 hdk hsh hfr hb4); clear hdk0 hdk hsh hfr hb4))
    obtain ⟨x0, x1, x2, x3, -⟩ := bx_cell T4.out.box
    go_upto_region 13 with fail
    clear x0 x1 x2 x3
    have htc := HTC.out
    obtain ⟨W5, hW5⟩ : ∃ W5, W5 = w4.alloc (bxo (.slice A3 n3 c3) (.slice A4 n4 c4) dA) := ⟨_, rfl⟩
    rw [← hW5] at htc
    have hW5' : W5 = w4.alloc (.cells #[.slice A3 n3 c3, .slice A4 n4 c4, .int .i64 dA.armed, .bool dA.off] 41) := hW5
    rw [← hW5']
    clear HTC hW5 hW5' T4
    generalize w4.heap.size = b2 at htc ⊢
    have TC5 := Lib.hid htc.1
    have SD5 := Lib.hid htc.2
    clear htc
    go_upto_block 2 with fail
    go_cut [12] (fun _ W => ∃ (S6 : Nat → Prop) (A6 : Option Addr) (n6 c6 : Nat) (A9 : Option Addr) (n9 c9 : Nat) (k : Nat), k = min m' 15 ∧ Twin C5 w W S6 (fun k => Own C5 S3 k ∨ (k = b ∨ k = b2)) q b2 (.slice A6 n6 c6) (.slice A9 n9 c9) (runD dA (lb.take k)) ∧ Side C5 w W S6 (fun k => Own C5 S3 k ∨ (k = b ∨ k = b2)) p S3 b b2 (.slice A3 n3 c3) (.slice A4 n4 c4) dA)
    case first =>
      go_wp2_with fail
      go_loopw [12] (fun ii wr => ∃ (i : Nat) (S6 : Nat → Prop) (A6 : Option Addr) (n6 c6 : Nat) (A9 : Option Addr) (n9 c9 : Nat), i ≤ 15 ∧ i ≤ m' ∧ ii = .int .i64 (i : Int) ∧ (runD dA (lb.take i)).L.length ≤ 15 + i ∧ Twin C5 w wr S6 (fun k => Own C5 S3 k ∨ (k = b ∨ k = b2)) q b2 (.slice A6 n6 c6) (.slice A9 n9 c9) (runD dA (lb.take i)) ∧ Side C5 w wr S6 (fun k => Own C5 S3 k ∨ (k = b ∨ k = b2)) p S3 b b2 (.slice A3 n3 c3) (.slice A4 n4 c4) dA) (fun ii _ => 15 - (intOf ii).toNat)
      case atStart => exact ⟨0, S5, A3, n3, c3, A4, n4, c4, by omega, by omega, rfl, HDA.out, TC5.out, SD5.out⟩
      case round =>
        obtain ⟨i, S6, A6, n6, c6, A9, n9, c9, hi, him, rfl, hdl, htw, hsd⟩ := hrel
        have TR := Lib.hid htw
        have SD := Lib.hid hsd
        have HDL := Lib.hid hdl
        clear htw hsd hdl
        by_cases hlt : i < m' ∧ i < 15
        · obtain ⟨hlt1, hlt2⟩ := hlt
          have HRN := Lib.hid (runD_next dA lb i (by have := HM'.out; omega))
          obtain ⟨ab, ao, Ad, cd, Ak, ck, rfl, hab, hok, hc0, hc1, hc2, hc3, hc4, hsd, hsk⟩ := HBB.out.at_ i (by have := HM'.out; omega)
          obtain ⟨act, hact⟩ : ∃ act, act = lb[i]'(by have := HM'.out; omega) := ⟨_, rfl⟩
          rw [← hact] at HRN hok hc0 hc1 hc2 hc3 hc4 hsd hsk
          obtain ⟨nd, hnd⟩ : ∃ nd, nd = act.data.length := ⟨_, rfl⟩
          obtain ⟨nk, hnk⟩ : ∃ nk, nk = act.keep.length := ⟨_, rfl⟩
          rw [← hnd] at hc3 hsd
          rw [← hnk] at hc4 hsk
          have HQ := Lib.hid (And.intro hab (And.intro hc0 (And.intro hc1 (And.intro hc2 (And.intro hc3 hc4)))))
          have HAC := Lib.hid (And.intro hok (And.intro hsd hsk))
          clear hab hok hc0 hc1 hc2 hc3 hc4 hsd hsk hact hnd hnk
          have i1 : (i : Int) < (m' : Int) := by omega
          have i2 : (i : Int) < 15 := by omega
          have i0 : (0 : Int) ≤ (i : Int) := by omega
          generalize hdi : runD dA (lb.take i) = d at TR HDL HRN
          clear hdi
          go_wp2_with fail
          have hd0 : Below w.heap.size w wr.drew ∧ wr.drew.heap[b2]? = some (bxo (.slice A6 n6 c6) (.slice A9 n9 c9) d) := ⟨TR.out.live.below.drew, TR.out.box⟩
          refine wp_region_held_drew (S := fun W => Below w.heap.size w W ∧ W.heap[b2]? = some (bxo (.slice A6 n6 c6) (.slice A9 n9 c9) d)) (by kernel_rfl) hd0 (fun hHeld => ?_)
          clear hd0
          refine wpAnyH_take (i := 0) (oi := { dst := Option.some 68, op := Op.move (Operand.tmp 10), type := 23, pos := "law.go:201", after := #[], guard := Option.none }) (v := .pointer (some ⟨q, 0, none⟩)) rfl (by kernel_rfl) (by kernel_rfl) (by kernel_rfl) (fun _ _ _ h => h) (Or.inl ⟨by rfl, ?_⟩) hHeld ?_
          · intro W hSw
            obtain ⟨y0, y1, y2, y3, -⟩ := bx_cell hSw.2
            go_simp
          simp only [Act.put, List.setIfInBounds_toArray, List.set_cons_zero, List.set_cons_succ]
          refine wpAnyH_take (i := 1) (oi := { dst := Option.some 69, op := Op.load 41 (Operand.tmp 11), type := 41, pos := "law.go:201", after := #[], guard := Option.none }) (v := .agg #[.slice A6 n6 c6, .slice A9 n9 c9, .int .i64 d.armed, .bool d.off]) rfl (by kernel_rfl) (by kernel_rfl) (by kernel_rfl) (fun _ _ _ h => h) (Or.inl ⟨by rfl, ?_⟩) hHeld ?_
          · intro W hSw
            obtain ⟨y0, y1, y2, y3, -⟩ := bx_cell hSw.2
            go_simp
          simp only [Act.put, List.setIfInBounds_toArray, List.set_cons_zero, List.set_cons_succ]
          refine wpAnyH_take (i := 2) (oi := { dst := Option.some 70, op := Op.move (Operand.tmp 1), type := 22, pos := "law.go:201", after := #[], guard := Option.none }) (v := .slice (some ⟨ab, ao, none⟩) m' c') rfl (by kernel_rfl) (by kernel_rfl) (by kernel_rfl) (fun _ _ _ h => h) (Or.inl ⟨by rfl, ?_⟩) hHeld ?_
          · intro W hSw
            have z0 := (hSw.1.cell (p := ⟨ab, ao + i * 5, none⟩) HQ.out.1).trans HQ.out.2.1; have z1 := (hSw.1.cell (p := ⟨ab, ao + i * 5 + 1, none⟩) HQ.out.1).trans HQ.out.2.2.1; have z2 := (hSw.1.cell (p := ⟨ab, ao + i * 5 + 2, none⟩) HQ.out.1).trans HQ.out.2.2.2.1; have z3 := (hSw.1.cell (p := ⟨ab, ao + i * 5 + 3, none⟩) HQ.out.1).trans HQ.out.2.2.2.2.1; have z4 := (hSw.1.cell (p := ⟨ab, ao + i * 5 + 4, none⟩) HQ.out.1).trans HQ.out.2.2.2.2.2
            go_simp
          simp only [Act.put, List.setIfInBounds_toArray, List.set_cons_zero, List.set_cons_succ]
          refine wpAnyH_take (i := 3) (oi := { dst := Option.some 71, op := Op.move (Operand.tmp 12), type := 3, pos := "law.go:201", after := #[], guard := Option.none }) (v := .int .i64 (i : Int)) rfl (by kernel_rfl) (by kernel_rfl) (by kernel_rfl) (fun _ _ _ h => h) (Or.inl ⟨by rfl, ?_⟩) hHeld ?_
          · intro W hSw
            have z0 := (hSw.1.cell (p := ⟨ab, ao + i * 5, none⟩) HQ.out.1).trans HQ.out.2.1; have z1 := (hSw.1.cell (p := ⟨ab, ao + i * 5 + 1, none⟩) HQ.out.1).trans HQ.out.2.2.1; have z2 := (hSw.1.cell (p := ⟨ab, ao + i * 5 + 2, none⟩) HQ.out.1).trans HQ.out.2.2.2.1; have z3 := (hSw.1.cell (p := ⟨ab, ao + i * 5 + 3, none⟩) HQ.out.1).trans HQ.out.2.2.2.2.1; have z4 := (hSw.1.cell (p := ⟨ab, ao + i * 5 + 4, none⟩) HQ.out.1).trans HQ.out.2.2.2.2.2
            go_simp
          simp only [Act.put, List.setIfInBounds_toArray, List.set_cons_zero, List.set_cons_succ]
          refine wpAnyH_take (i := 4) (oi := { dst := Option.some 72, op := Op.indexAddr 22 (Operand.tmp 70) (Operand.tmp 71), type := 0, pos := "law.go:201", after := #[{ on := 2, ground := Ground.data }, { on := 3, ground := Ground.data }], guard := Option.none }) (v := .pointer (some ⟨ab, ao + i * 5, none⟩)) rfl (by kernel_rfl) (by kernel_rfl) (by kernel_rfl) (fun _ _ _ h => h) (Or.inl ⟨by rfl, ?_⟩) hHeld ?_
          · intro W hSw
            have z0 := (hSw.1.cell (p := ⟨ab, ao + i * 5, none⟩) HQ.out.1).trans HQ.out.2.1; have z1 := (hSw.1.cell (p := ⟨ab, ao + i * 5 + 1, none⟩) HQ.out.1).trans HQ.out.2.2.1; have z2 := (hSw.1.cell (p := ⟨ab, ao + i * 5 + 2, none⟩) HQ.out.1).trans HQ.out.2.2.2.1; have z3 := (hSw.1.cell (p := ⟨ab, ao + i * 5 + 3, none⟩) HQ.out.1).trans HQ.out.2.2.2.2.1; have z4 := (hSw.1.cell (p := ⟨ab, ao + i * 5 + 4, none⟩) HQ.out.1).trans HQ.out.2.2.2.2.2
            go_simp
          simp only [Act.put, List.setIfInBounds_toArray, List.set_cons_zero, List.set_cons_succ]
          refine wpAnyH_take (i := 5) (oi := { dst := Option.some 73, op := Op.load 48 (Operand.tmp 72), type := 48, pos := "law.go:201", after := #[{ on := 4, ground := Ground.data }], guard := Option.none }) (v := .agg #[.int .i64 act.kind, .int .i64 act.at_, .int .i64 act.n, .slice Ad nd cd, .slice Ak nk ck]) rfl (by kernel_rfl) (by kernel_rfl) (by kernel_rfl) (fun _ _ _ h => h) (Or.inl ⟨by rfl, ?_⟩) hHeld ?_
          · intro W hSw
            have z0 := (hSw.1.cell (p := ⟨ab, ao + i * 5, none⟩) HQ.out.1).trans HQ.out.2.1; have z1 := (hSw.1.cell (p := ⟨ab, ao + i * 5 + 1, none⟩) HQ.out.1).trans HQ.out.2.2.1; have z2 := (hSw.1.cell (p := ⟨ab, ao + i * 5 + 2, none⟩) HQ.out.1).trans HQ.out.2.2.2.1; have z3 := (hSw.1.cell (p := ⟨ab, ao + i * 5 + 3, none⟩) HQ.out.1).trans HQ.out.2.2.2.2.1; have z4 := (hSw.1.cell (p := ⟨ab, ao + i * 5 + 4, none⟩) HQ.out.1).trans HQ.out.2.2.2.2.2
            go_simp
          simp only [Act.put, List.setIfInBounds_toArray, List.set_cons_zero, List.set_cons_succ]
          refine wpAnyH_ready (rs := [6, 10]) (by kernel_rfl) (by simp) ?_
          refine AllReadyH.cons (o := { dst := Option.some 74, op := Op.call { callee := Callee.value (Operand.func 19), args := #[Operand.tmp 68, Operand.tmp 69, Operand.tmp 73], argTypes := #[23, 41, 48] }, type := 44, pos := "law.go:201", after := #[{ on := 0, ground := Ground.data }, { on := 1, ground := Ground.data }, { on := 5, ground := Ground.data }], guard := Option.none }) rfl (fun K hK => ?_) (AllReadyH.cons (o := { dst := Option.some 13, op := Op.alloc 41, type := 0, pos := "law.go:201", after := #[], guard := Option.none }) rfl (fun K hK => ?_) AllReadyH.nil)
          · go_simp
            refine (twin_step C5 E5 (TR.out.more (Below.refl _ _).drew) HS.out act Ad Ak nd cd nk ck HAC.out.1 HAC.out.2.1 HAC.out.2.2 (by have := HDL.out; omega)).mono ?_
            rintro y w7 ⟨S7, A7, n7, c7, A8, n8, c8, rfl, hn7, ht7⟩
            have hg7 := hn7.guard (.cells #[.slice none 0 0, .slice none 0 0, .int .i64 0, .bool false] 41)
            refine hK.out _ _ ⟨hn7.live.below, hn7.box⟩ (fun hHeld => ?_)
            clear hK K
            refine wpAnyH_take (i := 7) (oi := { dst := Option.some 67, op := Op.move (Operand.tmp 74), type := 44, pos := "law.go:201", after := #[{ on := 6, ground := Ground.data }], guard := Option.none }) (v := .tuple #[.agg #[.slice A7 n7 c7, .slice A8 n8 c8, .int .i64 (actD d act).armed, .bool (actD d act).off], .bool true]) rfl (by kernel_rfl) (by kernel_rfl) (by kernel_rfl) (fun _ _ _ h => h) (Or.inl ⟨by rfl, ?_⟩) hHeld ?_
            · intro W hSw
              go_simp
            simp only [Act.put, List.setIfInBounds_toArray, List.set_cons_zero, List.set_cons_succ]
            refine wpAnyH_take (i := 8) (oi := { dst := Option.some 75, op := Op.extract (Operand.tmp 67) 0, type := 41, pos := "law.go:201", after := #[{ on := 7, ground := Ground.data }], guard := Option.none }) (v := .agg #[.slice A7 n7 c7, .slice A8 n8 c8, .int .i64 (actD d act).armed, .bool (actD d act).off]) rfl (by kernel_rfl) (by kernel_rfl) (by kernel_rfl) (fun _ _ _ h => h) (Or.inl ⟨by rfl, ?_⟩) hHeld ?_
            · intro W hSw
              go_simp
            simp only [Act.put, List.setIfInBounds_toArray, List.set_cons_zero, List.set_cons_succ]
            refine wpAnyH_take (i := 9) (oi := { dst := Option.some 76, op := Op.extract (Operand.tmp 67) 1, type := 4, pos := "law.go:201", after := #[{ on := 7, ground := Ground.data }, { on := 11, ground := Ground.gcOnly Departure.lateStores }], guard := Option.none }) (v := .bool true) rfl (by kernel_rfl) (by kernel_rfl) (by kernel_rfl) (fun _ _ _ h => h) (Or.inl ⟨by rfl, ?_⟩) hHeld ?_
            · intro W hSw
              go_simp
            simp only [Act.put, List.setIfInBounds_toArray, List.set_cons_zero, List.set_cons_succ]
            refine wpAnyH_ready (rs := [10]) (by kernel_rfl) (by simp) ?_
            refine AllReadyH.cons (o := { dst := Option.some 13, op := Op.alloc 41, type := 0, pos := "law.go:201", after := #[], guard := Option.none }) rfl (fun K hK => ?_) AllReadyH.nil
            go_simp
            refine hK.out _ _ ⟨hg7.live.below, hg7.box⟩ (fun hHeld => ?_)
            clear hK K
            have hzb := heap_alloc_new w7 (.cells #[.slice none 0 0, .slice none 0 0, .int .i64 0, .bool false] 41)
            have HBQ := Lib.hid (bx_lt hn7.box)
            have HT7 := Lib.hid ((Turn.refl S6 wr).drew.trans (ht7.trans (Turn.of_below ((Below.refl _ _).alloc (Nat.le_refl _) (.cells #[.slice none 0 0, .slice none 0 0, .int .i64 0, .bool false] 41)))))
            obtain ⟨wy, hwy⟩ : ∃ wy, wy = w7.alloc (.cells #[.slice none 0 0, .slice none 0 0, .int .i64 0, .bool false] 41) := ⟨_, rfl⟩
            rw [← hwy] at hg7 hzb HT7 ⊢
            have HZB := Lib.hid hzb
            have HN7 := Lib.hid hg7
            have HGE := Lib.hid (show wr.heap.size ≤ w7.heap.size from ht7.kept.size)
            clear hn7 ht7 hg7 hzb hwy
            obtain ⟨r0, r1, r2, r3, rf⟩ : wy.cell? ⟨w7.heap.size, 0, none⟩ = some (.slice none 0 0) ∧ wy.cell? ⟨w7.heap.size, 1, none⟩ = some (.slice none 0 0) ∧ wy.cell? ⟨w7.heap.size, 2, none⟩ = some (.int .i64 0) ∧ wy.cell? ⟨w7.heap.size, 3, none⟩ = some (.bool false) ∧ ∀ j, wy.frozen? ⟨w7.heap.size, j, none⟩ = false := zero_cell HZB.out
            have f0 := rf 0
            have f1 := rf 1
            have f2 := rf 2
            have f3 := rf 3
            clear rf
            refine wpAnyH_ready (rs := [11]) (by kernel_rfl) (by simp) ?_
            refine AllReadyH.cons (o := { dst := Option.none, op := Op.store 41 (Operand.tmp 13) (Operand.tmp 75), type := 0, pos := "law.go:201", after := #[{ on := 10, ground := Ground.data }, { on := 8, ground := Ground.data }, { on := 6, ground := Ground.chain }, { on := 0, ground := Ground.phase }, { on := 1, ground := Ground.phase }, { on := 2, ground := Ground.phase }, { on := 3, ground := Ground.phase }, { on := 4, ground := Ground.phase }, { on := 5, ground := Ground.phase }, { on := 6, ground := Ground.phase }, { on := 7, ground := Ground.phase }, { on := 8, ground := Ground.phase }, { on := 9, ground := Ground.textOnly Departure.lateStores }, { on := 10, ground := Ground.phase }], guard := Option.none }) rfl (fun K hK => ?_) AllReadyH.nil
            go_simp
            have hn8 := HN7.out.set4 (q := w7.heap.size) (Or.inr rfl) (by have := bx_lt HN7.out.box; have := HBQ.out; omega) (.slice A7 n7 c7) (.slice A8 n8 c8) (.int .i64 (actD d act).armed) (.bool (actD d act).off)
            have hz8 := bx_put HZB.out (.slice A7 n7 c7) (.slice A8 n8 c8) (.int .i64 (actD d act).armed) (.bool (actD d act).off)
            refine hK.out _ _ ⟨hn8.live.below, hn8.box⟩ (fun hHeld => ?_)
            clear hK K r0 r1 r2 r3 f0 f1 f2 f3
            refine wpAnyH_take (i := 12) (oi := { dst := Option.some 14, op := Op.assign (Operand.tmp 76), type := 4, pos := "law.go:201", after := #[{ on := 9, ground := Ground.data }, { on := 11, ground := Ground.chain }, { on := 0, ground := Ground.phase }, { on := 1, ground := Ground.phase }, { on := 2, ground := Ground.phase }, { on := 3, ground := Ground.phase }, { on := 4, ground := Ground.phase }, { on := 5, ground := Ground.phase }, { on := 6, ground := Ground.phase }, { on := 7, ground := Ground.phase }, { on := 8, ground := Ground.phase }, { on := 9, ground := Ground.phase }, { on := 10, ground := Ground.phase }, { on := 11, ground := Ground.phase }], guard := Option.none }) (v := .bool true) rfl (by kernel_rfl) (by kernel_rfl) (by kernel_rfl) (fun _ _ _ h => h) (Or.inl ⟨by rfl, ?_⟩) hHeld ?_
            · intro W hSw
              go_simp
            simp only [Act.put, List.setIfInBounds_toArray, List.set_cons_zero, List.set_cons_succ]
            clear hHeld
            obtain ⟨w8, hw8⟩ : ∃ w8, w8 = ((((wy.setCell ⟨w7.heap.size, 0, none⟩ (.slice A7 n7 c7)).setCell ⟨w7.heap.size, 1, none⟩ (.slice A8 n8 c8)).setCell ⟨w7.heap.size, 2, none⟩ (.int .i64 (actD d act).armed)).setCell ⟨w7.heap.size, 3, none⟩ (.bool (actD d act).off)) := ⟨_, rfl⟩
            rw [← hw8] at hn8 hz8 ⊢
            have hk8 : ∀ k, k < wr.heap.size → ¬ S6 k → w8.heap[k]? = wr.heap[k]? := fun k h1 h2 => by rw [hw8, set4_block _ _ _ _ _ _ k (by have := HT7.out.kept.size; have := HGE.out; omega)]; exact HT7.out.kept.block k h1 h2
            have hs8 : wr.heap.size ≤ w8.heap.size := by have := HT7.out.kept.size; rw [hw8]; simpa [World.setCell] using this
            have HK8 := Lib.hid (And.intro hk8 hs8)
            clear hk8 hs8
            obtain ⟨bq, hbq⟩ : ∃ bq, bq = w7.heap.size := ⟨_, rfl⟩
            rw [← hbq] at hn8 hz8 ⊢
            clear hbq hw8
            obtain ⟨y0, y1, y2, y3, -⟩ := bx_cell (d := actD d act) hz8
            obtain ⟨x0, x1, x2, x3, xf⟩ := bx_cell hn8.box
            have g0 := xf 0
            have g1 := xf 1
            have g2 := xf 2
            have g3 := xf 3
            clear xf
            have HN8 := Lib.hid hn8
            clear hn8 hz8
            refine wpAnyH_done (by kernel_rfl) ?_ _
            go_upto_region 18 with fail
            have ht9 := HN8.out.put.fewer (Z' := (fun k => Own C5 S3 k ∨ (k = b ∨ k = b2))) (fun k hk => Or.inl hk) TR.out.zb
            clear y0 y1 y2 y3 x0 x1 x2 x3 g0 g1 g2 g3
            obtain ⟨w9, hw9⟩ : ∃ w9, w9 = ((((w8.setCell ⟨b2, 0, none⟩ (.slice A7 n7 c7)).setCell ⟨b2, 1, none⟩ (.slice A8 n8 c8)).setCell ⟨b2, 2, none⟩ (.int .i64 (actD d act).armed)).setCell ⟨b2, 3, none⟩ (.bool (actD d act).off)) := ⟨_, rfl⟩
            have hk9 : ∀ k, k < wr.heap.size → ¬ S6 k → k ≠ b2 → w9.heap[k]? = wr.heap[k]? := fun k h1 h2 h3 => by rw [hw9, set4_block _ _ _ _ _ _ k h3]; exact HK8.out.1 k h1 h2
            have hs9 : wr.heap.size ≤ w9.heap.size := by have := HK8.out.2; rw [hw9]; simpa [World.setCell] using this
            have HCH := Lib.hid (And.intro hk9 (And.intro hs9 (show ∀ k, S7 k → S6 k ∨ wr.heap.size ≤ k from HT7.out.new)))
            rw [← hw9] at ht9 ⊢
            have T9 := Lib.hid ht9
            clear ht9 hw9 hk9 hs9
            have hsd9 := SD.out.go TR.out.live T9.out.live HCH.out.1 HCH.out.2.1 HCH.out.2.2 T9.out.sz
            have SD9 := Lib.hid hsd9
            clear hsd9
            have HL9 := Lib.hid (Nat.le_trans (actD_lenL d act) (Nat.succ_le_succ HDL.out))
            rw [← HRN.out] at T9 HL9
            go_wp2_with fail
            go_roundw
            case rel => exact ⟨i + 1, S7, A7, n7, c7, A8, n8, c8, by omega, by omega, by go_num, HL9.out, T9.out, SD9.out⟩
            case measure => simp [intOf]; omega
          · go_simp
            have hg6 := (TR.out.guard (.cells #[.slice none 0 0, .slice none 0 0, .int .i64 0, .bool false] 41)).more (Below.refl _ _).drew
            refine hK.out _ _ ⟨hg6.live.below, hg6.box⟩ (fun hHeld => ?_)
            clear hK K
            refine wpAnyH_ready (rs := [6]) (by kernel_rfl) (by simp) ?_
            refine AllReadyH.cons (o := { dst := Option.some 74, op := Op.call { callee := Callee.value (Operand.func 19), args := #[Operand.tmp 68, Operand.tmp 69, Operand.tmp 73], argTypes := #[23, 41, 48] }, type := 44, pos := "law.go:201", after := #[{ on := 0, ground := Ground.data }, { on := 1, ground := Ground.data }, { on := 5, ground := Ground.data }], guard := Option.none }) rfl (fun K hK => ?_) AllReadyH.nil
            go_simp
            refine (twin_step C5 E5 hg6 HS.out act Ad Ak nd cd nk ck HAC.out.1 HAC.out.2.1 HAC.out.2.2 (by have := HDL.out; omega)).mono ?_
            rintro y w7 ⟨S7, A7, n7, c7, A8, n8, c8, rfl, hn7, ht7⟩
            have HBQ := Lib.hid (bx_lt TR.out.box)
            have hzb : w7.heap[wr.heap.size]? = some (.cells #[.slice none 0 0, .slice none 0 0, .int .i64 0, .bool false] 41) := (ht7.kept.block wr.heap.size (by rw [World.size_drew, World.size_alloc]; omega) (fun hs => by have := C5.foot TR.out.live.dk _ hs; omega)).trans (heap_alloc_new wr _)
            have HZB := Lib.hid hzb
            have HN7 := Lib.hid hn7
            have HT7 := Lib.hid ((Turn.of_below ((Below.refl _ _).alloc (Nat.le_refl _) (.cells #[.slice none 0 0, .slice none 0 0, .int .i64 0, .bool false] 41))).drew.trans ht7)
            refine hK.out _ _ ⟨hn7.live.below, hn7.box⟩ (fun hHeld => ?_)
            have HGE := Lib.hid (Nat.le_refl wr.heap.size)
            clear hK K hn7 ht7 hzb hg6
            refine wpAnyH_take (i := 7) (oi := { dst := Option.some 67, op := Op.move (Operand.tmp 74), type := 44, pos := "law.go:201", after := #[{ on := 6, ground := Ground.data }], guard := Option.none }) (v := .tuple #[.agg #[.slice A7 n7 c7, .slice A8 n8 c8, .int .i64 (actD d act).armed, .bool (actD d act).off], .bool true]) rfl (by kernel_rfl) (by kernel_rfl) (by kernel_rfl) (fun _ _ _ h => h) (Or.inl ⟨by rfl, ?_⟩) hHeld ?_
            · intro W hSw
              go_simp
            simp only [Act.put, List.setIfInBounds_toArray, List.set_cons_zero, List.set_cons_succ]
            refine wpAnyH_take (i := 8) (oi := { dst := Option.some 75, op := Op.extract (Operand.tmp 67) 0, type := 41, pos := "law.go:201", after := #[{ on := 7, ground := Ground.data }], guard := Option.none }) (v := .agg #[.slice A7 n7 c7, .slice A8 n8 c8, .int .i64 (actD d act).armed, .bool (actD d act).off]) rfl (by kernel_rfl) (by kernel_rfl) (by kernel_rfl) (fun _ _ _ h => h) (Or.inl ⟨by rfl, ?_⟩) hHeld ?_
            · intro W hSw
              go_simp
            simp only [Act.put, List.setIfInBounds_toArray, List.set_cons_zero, List.set_cons_succ]
            refine wpAnyH_take (i := 9) (oi := { dst := Option.some 76, op := Op.extract (Operand.tmp 67) 1, type := 4, pos := "law.go:201", after := #[{ on := 7, ground := Ground.data }, { on := 11, ground := Ground.gcOnly Departure.lateStores }], guard := Option.none }) (v := .bool true) rfl (by kernel_rfl) (by kernel_rfl) (by kernel_rfl) (fun _ _ _ h => h) (Or.inl ⟨by rfl, ?_⟩) hHeld ?_
            · intro W hSw
              go_simp
            simp only [Act.put, List.setIfInBounds_toArray, List.set_cons_zero, List.set_cons_succ]
            obtain ⟨r0, r1, r2, r3, rf⟩ : w7.cell? ⟨wr.heap.size, 0, none⟩ = some (.slice none 0 0) ∧ w7.cell? ⟨wr.heap.size, 1, none⟩ = some (.slice none 0 0) ∧ w7.cell? ⟨wr.heap.size, 2, none⟩ = some (.int .i64 0) ∧ w7.cell? ⟨wr.heap.size, 3, none⟩ = some (.bool false) ∧ ∀ j, w7.frozen? ⟨wr.heap.size, j, none⟩ = false := zero_cell HZB.out
            have f0 := rf 0
            have f1 := rf 1
            have f2 := rf 2
            have f3 := rf 3
            clear rf
            refine wpAnyH_ready (rs := [11]) (by kernel_rfl) (by simp) ?_
            refine AllReadyH.cons (o := { dst := Option.none, op := Op.store 41 (Operand.tmp 13) (Operand.tmp 75), type := 0, pos := "law.go:201", after := #[{ on := 10, ground := Ground.data }, { on := 8, ground := Ground.data }, { on := 6, ground := Ground.chain }, { on := 0, ground := Ground.phase }, { on := 1, ground := Ground.phase }, { on := 2, ground := Ground.phase }, { on := 3, ground := Ground.phase }, { on := 4, ground := Ground.phase }, { on := 5, ground := Ground.phase }, { on := 6, ground := Ground.phase }, { on := 7, ground := Ground.phase }, { on := 8, ground := Ground.phase }, { on := 9, ground := Ground.textOnly Departure.lateStores }, { on := 10, ground := Ground.phase }], guard := Option.none }) rfl (fun K hK => ?_) AllReadyH.nil
            go_simp
            have hn8 := HN7.out.set4 (q := wr.heap.size) (Or.inr rfl) (by have := bx_lt HN7.out.box; have := HBQ.out; omega) (.slice A7 n7 c7) (.slice A8 n8 c8) (.int .i64 (actD d act).armed) (.bool (actD d act).off)
            have hz8 := bx_put HZB.out (.slice A7 n7 c7) (.slice A8 n8 c8) (.int .i64 (actD d act).armed) (.bool (actD d act).off)
            refine hK.out _ _ ⟨hn8.live.below, hn8.box⟩ (fun hHeld => ?_)
            clear hK K r0 r1 r2 r3 f0 f1 f2 f3
            refine wpAnyH_take (i := 12) (oi := { dst := Option.some 14, op := Op.assign (Operand.tmp 76), type := 4, pos := "law.go:201", after := #[{ on := 9, ground := Ground.data }, { on := 11, ground := Ground.chain }, { on := 0, ground := Ground.phase }, { on := 1, ground := Ground.phase }, { on := 2, ground := Ground.phase }, { on := 3, ground := Ground.phase }, { on := 4, ground := Ground.phase }, { on := 5, ground := Ground.phase }, { on := 6, ground := Ground.phase }, { on := 7, ground := Ground.phase }, { on := 8, ground := Ground.phase }, { on := 9, ground := Ground.phase }, { on := 10, ground := Ground.phase }, { on := 11, ground := Ground.phase }], guard := Option.none }) (v := .bool true) rfl (by kernel_rfl) (by kernel_rfl) (by kernel_rfl) (fun _ _ _ h => h) (Or.inl ⟨by rfl, ?_⟩) hHeld ?_
            · intro W hSw
              go_simp
            simp only [Act.put, List.setIfInBounds_toArray, List.set_cons_zero, List.set_cons_succ]
            clear hHeld
            obtain ⟨w8, hw8⟩ : ∃ w8, w8 = ((((w7.setCell ⟨wr.heap.size, 0, none⟩ (.slice A7 n7 c7)).setCell ⟨wr.heap.size, 1, none⟩ (.slice A8 n8 c8)).setCell ⟨wr.heap.size, 2, none⟩ (.int .i64 (actD d act).armed)).setCell ⟨wr.heap.size, 3, none⟩ (.bool (actD d act).off)) := ⟨_, rfl⟩
            rw [← hw8] at hn8 hz8 ⊢
            have hk8 : ∀ k, k < wr.heap.size → ¬ S6 k → w8.heap[k]? = wr.heap[k]? := fun k h1 h2 => by rw [hw8, set4_block _ _ _ _ _ _ k (by have := HT7.out.kept.size; have := HGE.out; omega)]; exact HT7.out.kept.block k h1 h2
            have hs8 : wr.heap.size ≤ w8.heap.size := by have := HT7.out.kept.size; rw [hw8]; simpa [World.setCell] using this
            have HK8 := Lib.hid (And.intro hk8 hs8)
            clear hk8 hs8
            obtain ⟨bq, hbq⟩ : ∃ bq, bq = wr.heap.size := ⟨_, rfl⟩
            rw [← hbq] at hn8 hz8 ⊢
            clear hbq hw8
            obtain ⟨y0, y1, y2, y3, -⟩ := bx_cell (d := actD d act) hz8
            obtain ⟨x0, x1, x2, x3, xf⟩ := bx_cell hn8.box
            have g0 := xf 0
            have g1 := xf 1
            have g2 := xf 2
            have g3 := xf 3
            clear xf
            have HN8 := Lib.hid hn8
            clear hn8 hz8
            refine wpAnyH_done (by kernel_rfl) ?_ _
            go_upto_region 18 with fail
            have ht9 := HN8.out.put.fewer (Z' := (fun k => Own C5 S3 k ∨ (k = b ∨ k = b2))) (fun k hk => Or.inl hk) TR.out.zb
            clear y0 y1 y2 y3 x0 x1 x2 x3 g0 g1 g2 g3
            obtain ⟨w9, hw9⟩ : ∃ w9, w9 = ((((w8.setCell ⟨b2, 0, none⟩ (.slice A7 n7 c7)).setCell ⟨b2, 1, none⟩ (.slice A8 n8 c8)).setCell ⟨b2, 2, none⟩ (.int .i64 (actD d act).armed)).setCell ⟨b2, 3, none⟩ (.bool (actD d act).off)) := ⟨_, rfl⟩
            have hk9 : ∀ k, k < wr.heap.size → ¬ S6 k → k ≠ b2 → w9.heap[k]? = wr.heap[k]? := fun k h1 h2 h3 => by rw [hw9, set4_block _ _ _ _ _ _ k h3]; exact HK8.out.1 k h1 h2
            have hs9 : wr.heap.size ≤ w9.heap.size := by have := HK8.out.2; rw [hw9]; simpa [World.setCell] using this
            have HCH := Lib.hid (And.intro hk9 (And.intro hs9 (show ∀ k, S7 k → S6 k ∨ wr.heap.size ≤ k from HT7.out.new)))
            rw [← hw9] at ht9 ⊢
            have T9 := Lib.hid ht9
            clear ht9 hw9 hk9 hs9
            have hsd9 := SD.out.go TR.out.live T9.out.live HCH.out.1 HCH.out.2.1 HCH.out.2.2 T9.out.sz
            have SD9 := Lib.hid hsd9
            clear hsd9
            have HL9 := Lib.hid (Nat.le_trans (actD_lenL d act) (Nat.succ_le_succ HDL.out))
            rw [← HRN.out] at T9 HL9
            go_wp2_with fail
            go_roundw
            case rel => exact ⟨i + 1, S7, A7, n7, c7, A8, n8, c8, by omega, by omega, by go_num, HL9.out, T9.out, SD9.out⟩
            case measure => simp [intOf]; omega
        · have hge : ¬ ((i : Int) < (m' : Int)) ∨ ((i : Int) < (m' : Int) ∧ ¬ (i : Int) < 15) := by omega
          have hki : i = min m' 15 := by omega
          have HKI := Lib.hid hki
          clear hlt hki
          rcases hge with hge | ⟨hge1, hge2⟩
          all_goals
            go_wp2_with fail
            go_meet
            exact ⟨S6, A6, n6, c6, A9, n9, c9, i, HKI.out, TR.out, SD.out⟩
    case rest =>
      obtain ⟨S6, A6, n6, c6, A9, n9, c9, k2, hk2, htw, hsd⟩ := hcut
      have HK2 := Lib.hid hk2
      have LCC := Lib.hid htw.live
      have TD := Lib.hid (hsd.twin htw.live htw.zl)
      have HNS := Lib.hid (show ¬ S6 b from fun hx => hsd.sc b hx hsd.zb)
      clear hk2 htw hsd
      go_upto_block 4 with fail
      go_cut [15] (fun _ W => ∃ (S8 : Nat → Prop) (A11 : Option Addr) (n11 c11 : Nat) (A12 : Option Addr) (n12 c12 : Nat) (k : Nat), k = min m' 15 ∧ Twin C5 w W S8 (fun k => Own C5 S6 k ∨ k = b) p b (.slice A11 n11 c11) (.slice A12 n12 c12) (runD dA (lb.take k)) ∧ Live C5 w W S6 q (runD dA (lb.take k2)))
      case first =>
        go_wp2_with fail
        go_loopw [15] (fun ii wr => ∃ (i : Nat) (S8 : Nat → Prop) (A11 : Option Addr) (n11 c11 : Nat) (A12 : Option Addr) (n12 c12 : Nat), i ≤ 15 ∧ i ≤ m' ∧ ii = .int .i64 (i : Int) ∧ (runD dA (lb.take i)).L.length ≤ 15 + i ∧ Twin C5 w wr S8 (fun k => Own C5 S6 k ∨ k = b) p b (.slice A11 n11 c11) (.slice A12 n12 c12) (runD dA (lb.take i)) ∧ Live C5 w wr S6 q (runD dA (lb.take k2))) (fun ii _ => 15 - (intOf ii).toNat)
        case atStart => exact ⟨0, S3, A3, n3, c3, A4, n4, c4, by omega, by omega, rfl, HDA.out, TD.out, LCC.out⟩
        case round =>
          obtain ⟨i, S8, A11, n11, c11, A12, n12, c12, hi, him, rfl, hdl, htw, hlc⟩ := hrel
          have TR := Lib.hid htw
          have LR := Lib.hid hlc
          have HDL := Lib.hid hdl
          clear htw hlc hdl
          by_cases hlt : i < m' ∧ i < 15
          · obtain ⟨hlt1, hlt2⟩ := hlt
            have HRN := Lib.hid (runD_next dA lb i (by have := HM'.out; omega))
            obtain ⟨ab, ao, Ad, cd, Ak, ck, rfl, hab, hok, hc0, hc1, hc2, hc3, hc4, hsd, hsk⟩ := HBB.out.at_ i (by have := HM'.out; omega)
            obtain ⟨act, hact⟩ : ∃ act, act = lb[i]'(by have := HM'.out; omega) := ⟨_, rfl⟩
            rw [← hact] at HRN hok hc0 hc1 hc2 hc3 hc4 hsd hsk
            obtain ⟨nd, hnd⟩ : ∃ nd, nd = act.data.length := ⟨_, rfl⟩
            obtain ⟨nk, hnk⟩ : ∃ nk, nk = act.keep.length := ⟨_, rfl⟩
            rw [← hnd] at hc3 hsd
            rw [← hnk] at hc4 hsk
            have HQ := Lib.hid (And.intro hab (And.intro hc0 (And.intro hc1 (And.intro hc2 (And.intro hc3 hc4)))))
            have HAC := Lib.hid (And.intro hok (And.intro hsd hsk))
            clear hab hok hc0 hc1 hc2 hc3 hc4 hsd hsk hact hnd hnk
            have i1 : (i : Int) < (m' : Int) := by omega
            have i2 : (i : Int) < 15 := by omega
            have i0 : (0 : Int) ≤ (i : Int) := by omega
            generalize hdi : runD dA (lb.take i) = d at TR HDL HRN
            clear hdi
            go_wp2_with fail
            have hd0 : Below w.heap.size w wr.drew ∧ wr.drew.heap[b]? = some (bxo (.slice A11 n11 c11) (.slice A12 n12 c12) d) := ⟨TR.out.live.below.drew, TR.out.box⟩
            refine wp_region_held_drew (S := fun W => Below w.heap.size w W ∧ W.heap[b]? = some (bxo (.slice A11 n11 c11) (.slice A12 n12 c12) d)) (by kernel_rfl) hd0 (fun hHeld => ?_)
            clear hd0
            refine wpAnyH_take (i := 0) (oi := { dst := Option.some 91, op := Op.move (Operand.tmp 5), type := 23, pos := "law.go:208", after := #[], guard := Option.none }) (v := .pointer (some ⟨p, 0, none⟩)) rfl (by kernel_rfl) (by kernel_rfl) (by kernel_rfl) (fun _ _ _ h => h) (Or.inl ⟨by rfl, ?_⟩) hHeld ?_
            · intro W hSw
              obtain ⟨y0, y1, y2, y3, -⟩ := bx_cell hSw.2
              go_simp
            simp only [Act.put, List.setIfInBounds_toArray, List.set_cons_zero, List.set_cons_succ]
            refine wpAnyH_take (i := 1) (oi := { dst := Option.some 92, op := Op.load 41 (Operand.tmp 7), type := 41, pos := "law.go:208", after := #[], guard := Option.none }) (v := .agg #[.slice A11 n11 c11, .slice A12 n12 c12, .int .i64 d.armed, .bool d.off]) rfl (by kernel_rfl) (by kernel_rfl) (by kernel_rfl) (fun _ _ _ h => h) (Or.inl ⟨by rfl, ?_⟩) hHeld ?_
            · intro W hSw
              obtain ⟨y0, y1, y2, y3, -⟩ := bx_cell hSw.2
              go_simp
            simp only [Act.put, List.setIfInBounds_toArray, List.set_cons_zero, List.set_cons_succ]
            refine wpAnyH_take (i := 2) (oi := { dst := Option.some 93, op := Op.move (Operand.tmp 1), type := 22, pos := "law.go:208", after := #[], guard := Option.none }) (v := .slice (some ⟨ab, ao, none⟩) m' c') rfl (by kernel_rfl) (by kernel_rfl) (by kernel_rfl) (fun _ _ _ h => h) (Or.inl ⟨by rfl, ?_⟩) hHeld ?_
            · intro W hSw
              have z0 := (hSw.1.cell (p := ⟨ab, ao + i * 5, none⟩) HQ.out.1).trans HQ.out.2.1; have z1 := (hSw.1.cell (p := ⟨ab, ao + i * 5 + 1, none⟩) HQ.out.1).trans HQ.out.2.2.1; have z2 := (hSw.1.cell (p := ⟨ab, ao + i * 5 + 2, none⟩) HQ.out.1).trans HQ.out.2.2.2.1; have z3 := (hSw.1.cell (p := ⟨ab, ao + i * 5 + 3, none⟩) HQ.out.1).trans HQ.out.2.2.2.2.1; have z4 := (hSw.1.cell (p := ⟨ab, ao + i * 5 + 4, none⟩) HQ.out.1).trans HQ.out.2.2.2.2.2
              go_simp
            simp only [Act.put, List.setIfInBounds_toArray, List.set_cons_zero, List.set_cons_succ]
            refine wpAnyH_take (i := 3) (oi := { dst := Option.some 94, op := Op.move (Operand.tmp 15), type := 3, pos := "law.go:208", after := #[], guard := Option.none }) (v := .int .i64 (i : Int)) rfl (by kernel_rfl) (by kernel_rfl) (by kernel_rfl) (fun _ _ _ h => h) (Or.inl ⟨by rfl, ?_⟩) hHeld ?_
            · intro W hSw
              have z0 := (hSw.1.cell (p := ⟨ab, ao + i * 5, none⟩) HQ.out.1).trans HQ.out.2.1; have z1 := (hSw.1.cell (p := ⟨ab, ao + i * 5 + 1, none⟩) HQ.out.1).trans HQ.out.2.2.1; have z2 := (hSw.1.cell (p := ⟨ab, ao + i * 5 + 2, none⟩) HQ.out.1).trans HQ.out.2.2.2.1; have z3 := (hSw.1.cell (p := ⟨ab, ao + i * 5 + 3, none⟩) HQ.out.1).trans HQ.out.2.2.2.2.1; have z4 := (hSw.1.cell (p := ⟨ab, ao + i * 5 + 4, none⟩) HQ.out.1).trans HQ.out.2.2.2.2.2
              go_simp
            simp only [Act.put, List.setIfInBounds_toArray, List.set_cons_zero, List.set_cons_succ]
            refine wpAnyH_take (i := 4) (oi := { dst := Option.some 95, op := Op.indexAddr 22 (Operand.tmp 93) (Operand.tmp 94), type := 0, pos := "law.go:208", after := #[{ on := 2, ground := Ground.data }, { on := 3, ground := Ground.data }], guard := Option.none }) (v := .pointer (some ⟨ab, ao + i * 5, none⟩)) rfl (by kernel_rfl) (by kernel_rfl) (by kernel_rfl) (fun _ _ _ h => h) (Or.inl ⟨by rfl, ?_⟩) hHeld ?_
            · intro W hSw
              have z0 := (hSw.1.cell (p := ⟨ab, ao + i * 5, none⟩) HQ.out.1).trans HQ.out.2.1; have z1 := (hSw.1.cell (p := ⟨ab, ao + i * 5 + 1, none⟩) HQ.out.1).trans HQ.out.2.2.1; have z2 := (hSw.1.cell (p := ⟨ab, ao + i * 5 + 2, none⟩) HQ.out.1).trans HQ.out.2.2.2.1; have z3 := (hSw.1.cell (p := ⟨ab, ao + i * 5 + 3, none⟩) HQ.out.1).trans HQ.out.2.2.2.2.1; have z4 := (hSw.1.cell (p := ⟨ab, ao + i * 5 + 4, none⟩) HQ.out.1).trans HQ.out.2.2.2.2.2
              go_simp
            simp only [Act.put, List.setIfInBounds_toArray, List.set_cons_zero, List.set_cons_succ]
            refine wpAnyH_take (i := 5) (oi := { dst := Option.some 96, op := Op.load 48 (Operand.tmp 95), type := 48, pos := "law.go:208", after := #[{ on := 4, ground := Ground.data }], guard := Option.none }) (v := .agg #[.int .i64 act.kind, .int .i64 act.at_, .int .i64 act.n, .slice Ad nd cd, .slice Ak nk ck]) rfl (by kernel_rfl) (by kernel_rfl) (by kernel_rfl) (fun _ _ _ h => h) (Or.inl ⟨by rfl, ?_⟩) hHeld ?_
            · intro W hSw
              have z0 := (hSw.1.cell (p := ⟨ab, ao + i * 5, none⟩) HQ.out.1).trans HQ.out.2.1; have z1 := (hSw.1.cell (p := ⟨ab, ao + i * 5 + 1, none⟩) HQ.out.1).trans HQ.out.2.2.1; have z2 := (hSw.1.cell (p := ⟨ab, ao + i * 5 + 2, none⟩) HQ.out.1).trans HQ.out.2.2.2.1; have z3 := (hSw.1.cell (p := ⟨ab, ao + i * 5 + 3, none⟩) HQ.out.1).trans HQ.out.2.2.2.2.1; have z4 := (hSw.1.cell (p := ⟨ab, ao + i * 5 + 4, none⟩) HQ.out.1).trans HQ.out.2.2.2.2.2
              go_simp
            simp only [Act.put, List.setIfInBounds_toArray, List.set_cons_zero, List.set_cons_succ]
            refine wpAnyH_ready (rs := [6, 10]) (by kernel_rfl) (by simp) ?_
            refine AllReadyH.cons (o := { dst := Option.some 97, op := Op.call { callee := Callee.value (Operand.func 19), args := #[Operand.tmp 91, Operand.tmp 92, Operand.tmp 96], argTypes := #[23, 41, 48] }, type := 44, pos := "law.go:208", after := #[{ on := 0, ground := Ground.data }, { on := 1, ground := Ground.data }, { on := 5, ground := Ground.data }], guard := Option.none }) rfl (fun K hK => ?_) (AllReadyH.cons (o := { dst := Option.some 16, op := Op.alloc 41, type := 0, pos := "law.go:208", after := #[], guard := Option.none }) rfl (fun K hK => ?_) AllReadyH.nil)
            · go_simp
              refine (twin_step C5 E5 (TR.out.more (Below.refl _ _).drew) HS.out act Ad Ak nd cd nk ck HAC.out.1 HAC.out.2.1 HAC.out.2.2 (by have := HDL.out; omega)).mono ?_
              rintro y w7 ⟨S7, A7, n7, c7, A8, n8, c8, rfl, hn7, ht7⟩
              have hg7 := hn7.guard (.cells #[.slice none 0 0, .slice none 0 0, .int .i64 0, .bool false] 41)
              refine hK.out _ _ ⟨hn7.live.below, hn7.box⟩ (fun hHeld => ?_)
              clear hK K
              refine wpAnyH_take (i := 7) (oi := { dst := Option.some 90, op := Op.move (Operand.tmp 97), type := 44, pos := "law.go:208", after := #[{ on := 6, ground := Ground.data }], guard := Option.none }) (v := .tuple #[.agg #[.slice A7 n7 c7, .slice A8 n8 c8, .int .i64 (actD d act).armed, .bool (actD d act).off], .bool true]) rfl (by kernel_rfl) (by kernel_rfl) (by kernel_rfl) (fun _ _ _ h => h) (Or.inl ⟨by rfl, ?_⟩) hHeld ?_
              · intro W hSw
                go_simp
              simp only [Act.put, List.setIfInBounds_toArray, List.set_cons_zero, List.set_cons_succ]
              refine wpAnyH_take (i := 8) (oi := { dst := Option.some 98, op := Op.extract (Operand.tmp 90) 0, type := 41, pos := "law.go:208", after := #[{ on := 7, ground := Ground.data }], guard := Option.none }) (v := .agg #[.slice A7 n7 c7, .slice A8 n8 c8, .int .i64 (actD d act).armed, .bool (actD d act).off]) rfl (by kernel_rfl) (by kernel_rfl) (by kernel_rfl) (fun _ _ _ h => h) (Or.inl ⟨by rfl, ?_⟩) hHeld ?_
              · intro W hSw
                go_simp
              simp only [Act.put, List.setIfInBounds_toArray, List.set_cons_zero, List.set_cons_succ]
              refine wpAnyH_take (i := 9) (oi := { dst := Option.some 99, op := Op.extract (Operand.tmp 90) 1, type := 4, pos := "law.go:208", after := #[{ on := 7, ground := Ground.data }, { on := 11, ground := Ground.gcOnly Departure.lateStores }], guard := Option.none }) (v := .bool true) rfl (by kernel_rfl) (by kernel_rfl) (by kernel_rfl) (fun _ _ _ h => h) (Or.inl ⟨by rfl, ?_⟩) hHeld ?_
              · intro W hSw
                go_simp
              simp only [Act.put, List.setIfInBounds_toArray, List.set_cons_zero, List.set_cons_succ]
              refine wpAnyH_ready (rs := [10]) (by kernel_rfl) (by simp) ?_
              refine AllReadyH.cons (o := { dst := Option.some 16, op := Op.alloc 41, type := 0, pos := "law.go:208", after := #[], guard := Option.none }) rfl (fun K hK => ?_) AllReadyH.nil
              go_simp
              refine hK.out _ _ ⟨hg7.live.below, hg7.box⟩ (fun hHeld => ?_)
              clear hK K
              have hzb := heap_alloc_new w7 (.cells #[.slice none 0 0, .slice none 0 0, .int .i64 0, .bool false] 41)
              have HBQ := Lib.hid (bx_lt hn7.box)
              have HT7 := Lib.hid ((Turn.refl S8 wr).drew.trans (ht7.trans (Turn.of_below ((Below.refl _ _).alloc (Nat.le_refl _) (.cells #[.slice none 0 0, .slice none 0 0, .int .i64 0, .bool false] 41)))))
              obtain ⟨wy, hwy⟩ : ∃ wy, wy = w7.alloc (.cells #[.slice none 0 0, .slice none 0 0, .int .i64 0, .bool false] 41) := ⟨_, rfl⟩
              rw [← hwy] at hg7 hzb HT7 ⊢
              have HZB := Lib.hid hzb
              have HN7 := Lib.hid hg7
              have HGE := Lib.hid (show wr.heap.size ≤ w7.heap.size from ht7.kept.size)
              clear hn7 ht7 hg7 hzb hwy
              obtain ⟨r0, r1, r2, r3, rf⟩ : wy.cell? ⟨w7.heap.size, 0, none⟩ = some (.slice none 0 0) ∧ wy.cell? ⟨w7.heap.size, 1, none⟩ = some (.slice none 0 0) ∧ wy.cell? ⟨w7.heap.size, 2, none⟩ = some (.int .i64 0) ∧ wy.cell? ⟨w7.heap.size, 3, none⟩ = some (.bool false) ∧ ∀ j, wy.frozen? ⟨w7.heap.size, j, none⟩ = false := zero_cell HZB.out
              have f0 := rf 0
              have f1 := rf 1
              have f2 := rf 2
              have f3 := rf 3
              clear rf
              refine wpAnyH_ready (rs := [11]) (by kernel_rfl) (by simp) ?_
              refine AllReadyH.cons (o := { dst := Option.none, op := Op.store 41 (Operand.tmp 16) (Operand.tmp 98), type := 0, pos := "law.go:208", after := #[{ on := 10, ground := Ground.data }, { on := 8, ground := Ground.data }, { on := 6, ground := Ground.chain }, { on := 0, ground := Ground.phase }, { on := 1, ground := Ground.phase }, { on := 2, ground := Ground.phase }, { on := 3, ground := Ground.phase }, { on := 4, ground := Ground.phase }, { on := 5, ground := Ground.phase }, { on := 6, ground := Ground.phase }, { on := 7, ground := Ground.phase }, { on := 8, ground := Ground.phase }, { on := 9, ground := Ground.textOnly Departure.lateStores }, { on := 10, ground := Ground.phase }], guard := Option.none }) rfl (fun K hK => ?_) AllReadyH.nil
              go_simp
              have hn8 := HN7.out.set4 (q := w7.heap.size) (Or.inr rfl) (by have := bx_lt HN7.out.box; have := HBQ.out; omega) (.slice A7 n7 c7) (.slice A8 n8 c8) (.int .i64 (actD d act).armed) (.bool (actD d act).off)
              have hz8 := bx_put HZB.out (.slice A7 n7 c7) (.slice A8 n8 c8) (.int .i64 (actD d act).armed) (.bool (actD d act).off)
              refine hK.out _ _ ⟨hn8.live.below, hn8.box⟩ (fun hHeld => ?_)
              clear hK K r0 r1 r2 r3 f0 f1 f2 f3
              refine wpAnyH_take (i := 12) (oi := { dst := Option.some 17, op := Op.assign (Operand.tmp 99), type := 4, pos := "law.go:208", after := #[{ on := 9, ground := Ground.data }, { on := 11, ground := Ground.chain }, { on := 0, ground := Ground.phase }, { on := 1, ground := Ground.phase }, { on := 2, ground := Ground.phase }, { on := 3, ground := Ground.phase }, { on := 4, ground := Ground.phase }, { on := 5, ground := Ground.phase }, { on := 6, ground := Ground.phase }, { on := 7, ground := Ground.phase }, { on := 8, ground := Ground.phase }, { on := 9, ground := Ground.phase }, { on := 10, ground := Ground.phase }, { on := 11, ground := Ground.phase }], guard := Option.none }) (v := .bool true) rfl (by kernel_rfl) (by kernel_rfl) (by kernel_rfl) (fun _ _ _ h => h) (Or.inl ⟨by rfl, ?_⟩) hHeld ?_
              · intro W hSw
                go_simp
              simp only [Act.put, List.setIfInBounds_toArray, List.set_cons_zero, List.set_cons_succ]
              clear hHeld
              obtain ⟨w8, hw8⟩ : ∃ w8, w8 = ((((wy.setCell ⟨w7.heap.size, 0, none⟩ (.slice A7 n7 c7)).setCell ⟨w7.heap.size, 1, none⟩ (.slice A8 n8 c8)).setCell ⟨w7.heap.size, 2, none⟩ (.int .i64 (actD d act).armed)).setCell ⟨w7.heap.size, 3, none⟩ (.bool (actD d act).off)) := ⟨_, rfl⟩
              rw [← hw8] at hn8 hz8 ⊢
              have hk8 : ∀ k, k < wr.heap.size → ¬ S8 k → w8.heap[k]? = wr.heap[k]? := fun k h1 h2 => by rw [hw8, set4_block _ _ _ _ _ _ k (by have := HT7.out.kept.size; have := HGE.out; omega)]; exact HT7.out.kept.block k h1 h2
              have hs8 : wr.heap.size ≤ w8.heap.size := by have := HT7.out.kept.size; rw [hw8]; simpa [World.setCell] using this
              have HK8 := Lib.hid (And.intro hk8 hs8)
              clear hk8 hs8
              obtain ⟨bq, hbq⟩ : ∃ bq, bq = w7.heap.size := ⟨_, rfl⟩
              rw [← hbq] at hn8 hz8 ⊢
              clear hbq hw8
              obtain ⟨y0, y1, y2, y3, -⟩ := bx_cell (d := actD d act) hz8
              obtain ⟨x0, x1, x2, x3, xf⟩ := bx_cell hn8.box
              have g0 := xf 0
              have g1 := xf 1
              have g2 := xf 2
              have g3 := xf 3
              clear xf
              have HN8 := Lib.hid hn8
              clear hn8 hz8
              refine wpAnyH_done (by kernel_rfl) ?_ _
              go_upto_region 25 with fail
              have ht9 := HN8.out.put.fewer (Z' := (fun k => Own C5 S6 k ∨ k = b)) (fun k hk => Or.inl hk) TR.out.zb
              clear y0 y1 y2 y3 x0 x1 x2 x3 g0 g1 g2 g3
              obtain ⟨w9, hw9⟩ : ∃ w9, w9 = ((((w8.setCell ⟨b, 0, none⟩ (.slice A7 n7 c7)).setCell ⟨b, 1, none⟩ (.slice A8 n8 c8)).setCell ⟨b, 2, none⟩ (.int .i64 (actD d act).armed)).setCell ⟨b, 3, none⟩ (.bool (actD d act).off)) := ⟨_, rfl⟩
              have hk9 : ∀ k, k < wr.heap.size → ¬ S8 k → k ≠ b → w9.heap[k]? = wr.heap[k]? := fun k h1 h2 h3 => by rw [hw9, set4_block _ _ _ _ _ _ k h3]; exact HK8.out.1 k h1 h2
              have hs9 : wr.heap.size ≤ w9.heap.size := by have := HK8.out.2; rw [hw9]; simpa [World.setCell] using this
              have HCH := Lib.hid (And.intro hk9 (And.intro hs9 (show ∀ k, S7 k → S8 k ∨ wr.heap.size ≤ k from HT7.out.new)))
              rw [← hw9] at ht9 ⊢
              have T9 := Lib.hid ht9
              clear ht9 hw9 hk9 hs9
              have hlc9 : Live C5 w w9 S6 q (runD dA (lb.take k2)) := LR.out.mate TR.out.live.dk T9.out.live.dk (fun k hk hr => HCH.out.1 k (C5.foot LR.out.dk k hk) (fun hx => TR.out.sz k hx (Or.inl ⟨hk, hr⟩)) (fun e => HNS.out (by rw [← e]; exact hk))) T9.out.live.below
              have LC9 := Lib.hid hlc9
              clear hlc9
              have HL9 := Lib.hid (Nat.le_trans (actD_lenL d act) (Nat.succ_le_succ HDL.out))
              rw [← HRN.out] at T9 HL9
              go_wp2_with fail
              go_roundw
              case rel => exact ⟨i + 1, S7, A7, n7, c7, A8, n8, c8, by omega, by omega, by go_num, HL9.out, T9.out, LC9.out⟩
              case measure => simp [intOf]; omega
            · go_simp
              have hg6 := (TR.out.guard (.cells #[.slice none 0 0, .slice none 0 0, .int .i64 0, .bool false] 41)).more (Below.refl _ _).drew
              refine hK.out _ _ ⟨hg6.live.below, hg6.box⟩ (fun hHeld => ?_)
              clear hK K
              refine wpAnyH_ready (rs := [6]) (by kernel_rfl) (by simp) ?_
              refine AllReadyH.cons (o := { dst := Option.some 97, op := Op.call { callee := Callee.value (Operand.func 19), args := #[Operand.tmp 91, Operand.tmp 92, Operand.tmp 96], argTypes := #[23, 41, 48] }, type := 44, pos := "law.go:208", after := #[{ on := 0, ground := Ground.data }, { on := 1, ground := Ground.data }, { on := 5, ground := Ground.data }], guard := Option.none }) rfl (fun K hK => ?_) AllReadyH.nil
              go_simp
              refine (twin_step C5 E5 hg6 HS.out act Ad Ak nd cd nk ck HAC.out.1 HAC.out.2.1 HAC.out.2.2 (by have := HDL.out; omega)).mono ?_
              rintro y w7 ⟨S7, A7, n7, c7, A8, n8, c8, rfl, hn7, ht7⟩
              have HBQ := Lib.hid (bx_lt TR.out.box)
              have hzb : w7.heap[wr.heap.size]? = some (.cells #[.slice none 0 0, .slice none 0 0, .int .i64 0, .bool false] 41) := (ht7.kept.block wr.heap.size (by rw [World.size_drew, World.size_alloc]; omega) (fun hs => by have := C5.foot TR.out.live.dk _ hs; omega)).trans (heap_alloc_new wr _)
              have HZB := Lib.hid hzb
              have HN7 := Lib.hid hn7
              have HT7 := Lib.hid ((Turn.of_below ((Below.refl _ _).alloc (Nat.le_refl _) (.cells #[.slice none 0 0, .slice none 0 0, .int .i64 0, .bool false] 41))).drew.trans ht7)
              refine hK.out _ _ ⟨hn7.live.below, hn7.box⟩ (fun hHeld => ?_)
              have HGE := Lib.hid (Nat.le_refl wr.heap.size)
              clear hK K hn7 ht7 hzb hg6
              refine wpAnyH_take (i := 7) (oi := { dst := Option.some 90, op := Op.move (Operand.tmp 97), type := 44, pos := "law.go:208", after := #[{ on := 6, ground := Ground.data }], guard := Option.none }) (v := .tuple #[.agg #[.slice A7 n7 c7, .slice A8 n8 c8, .int .i64 (actD d act).armed, .bool (actD d act).off], .bool true]) rfl (by kernel_rfl) (by kernel_rfl) (by kernel_rfl) (fun _ _ _ h => h) (Or.inl ⟨by rfl, ?_⟩) hHeld ?_
              · intro W hSw
                go_simp
              simp only [Act.put, List.setIfInBounds_toArray, List.set_cons_zero, List.set_cons_succ]
              refine wpAnyH_take (i := 8) (oi := { dst := Option.some 98, op := Op.extract (Operand.tmp 90) 0, type := 41, pos := "law.go:208", after := #[{ on := 7, ground := Ground.data }], guard := Option.none }) (v := .agg #[.slice A7 n7 c7, .slice A8 n8 c8, .int .i64 (actD d act).armed, .bool (actD d act).off]) rfl (by kernel_rfl) (by kernel_rfl) (by kernel_rfl) (fun _ _ _ h => h) (Or.inl ⟨by rfl, ?_⟩) hHeld ?_
              · intro W hSw
                go_simp
              simp only [Act.put, List.setIfInBounds_toArray, List.set_cons_zero, List.set_cons_succ]
              refine wpAnyH_take (i := 9) (oi := { dst := Option.some 99, op := Op.extract (Operand.tmp 90) 1, type := 4, pos := "law.go:208", after := #[{ on := 7, ground := Ground.data }, { on := 11, ground := Ground.gcOnly Departure.lateStores }], guard := Option.none }) (v := .bool true) rfl (by kernel_rfl) (by kernel_rfl) (by kernel_rfl) (fun _ _ _ h => h) (Or.inl ⟨by rfl, ?_⟩) hHeld ?_
              · intro W hSw
                go_simp
              simp only [Act.put, List.setIfInBounds_toArray, List.set_cons_zero, List.set_cons_succ]
              obtain ⟨r0, r1, r2, r3, rf⟩ : w7.cell? ⟨wr.heap.size, 0, none⟩ = some (.slice none 0 0) ∧ w7.cell? ⟨wr.heap.size, 1, none⟩ = some (.slice none 0 0) ∧ w7.cell? ⟨wr.heap.size, 2, none⟩ = some (.int .i64 0) ∧ w7.cell? ⟨wr.heap.size, 3, none⟩ = some (.bool false) ∧ ∀ j, w7.frozen? ⟨wr.heap.size, j, none⟩ = false := zero_cell HZB.out
              have f0 := rf 0
              have f1 := rf 1
              have f2 := rf 2
              have f3 := rf 3
              clear rf
              refine wpAnyH_ready (rs := [11]) (by kernel_rfl) (by simp) ?_
              refine AllReadyH.cons (o := { dst := Option.none, op := Op.store 41 (Operand.tmp 16) (Operand.tmp 98), type := 0, pos := "law.go:208", after := #[{ on := 10, ground := Ground.data }, { on := 8, ground := Ground.data }, { on := 6, ground := Ground.chain }, { on := 0, ground := Ground.phase }, { on := 1, ground := Ground.phase }, { on := 2, ground := Ground.phase }, { on := 3, ground := Ground.phase }, { on := 4, ground := Ground.phase }, { on := 5, ground := Ground.phase }, { on := 6, ground := Ground.phase }, { on := 7, ground := Ground.phase }, { on := 8, ground := Ground.phase }, { on := 9, ground := Ground.textOnly Departure.lateStores }, { on := 10, ground := Ground.phase }], guard := Option.none }) rfl (fun K hK => ?_) AllReadyH.nil
              go_simp
              have hn8 := HN7.out.set4 (q := wr.heap.size) (Or.inr rfl) (by have := bx_lt HN7.out.box; have := HBQ.out; omega) (.slice A7 n7 c7) (.slice A8 n8 c8) (.int .i64 (actD d act).armed) (.bool (actD d act).off)
              have hz8 := bx_put HZB.out (.slice A7 n7 c7) (.slice A8 n8 c8) (.int .i64 (actD d act).armed) (.bool (actD d act).off)
              refine hK.out _ _ ⟨hn8.live.below, hn8.box⟩ (fun hHeld => ?_)
              clear hK K r0 r1 r2 r3 f0 f1 f2 f3
              refine wpAnyH_take (i := 12) (oi := { dst := Option.some 17, op := Op.assign (Operand.tmp 99), type := 4, pos := "law.go:208", after := #[{ on := 9, ground := Ground.data }, { on := 11, ground := Ground.chain }, { on := 0, ground := Ground.phase }, { on := 1, ground := Ground.phase }, { on := 2, ground := Ground.phase }, { on := 3, ground := Ground.phase }, { on := 4, ground := Ground.phase }, { on := 5, ground := Ground.phase }, { on := 6, ground := Ground.phase }, { on := 7, ground := Ground.phase }, { on := 8, ground := Ground.phase }, { on := 9, ground := Ground.phase }, { on := 10, ground := Ground.phase }, { on := 11, ground := Ground.phase }], guard := Option.none }) (v := .bool true) rfl (by kernel_rfl) (by kernel_rfl) (by kernel_rfl) (fun _ _ _ h => h) (Or.inl ⟨by rfl, ?_⟩) hHeld ?_
              · intro W hSw
                go_simp
              simp only [Act.put, List.setIfInBounds_toArray, List.set_cons_zero, List.set_cons_succ]
              clear hHeld
              obtain ⟨w8, hw8⟩ : ∃ w8, w8 = ((((w7.setCell ⟨wr.heap.size, 0, none⟩ (.slice A7 n7 c7)).setCell ⟨wr.heap.size, 1, none⟩ (.slice A8 n8 c8)).setCell ⟨wr.heap.size, 2, none⟩ (.int .i64 (actD d act).armed)).setCell ⟨wr.heap.size, 3, none⟩ (.bool (actD d act).off)) := ⟨_, rfl⟩
              rw [← hw8] at hn8 hz8 ⊢
              have hk8 : ∀ k, k < wr.heap.size → ¬ S8 k → w8.heap[k]? = wr.heap[k]? := fun k h1 h2 => by rw [hw8, set4_block _ _ _ _ _ _ k (by have := HT7.out.kept.size; have := HGE.out; omega)]; exact HT7.out.kept.block k h1 h2
              have hs8 : wr.heap.size ≤ w8.heap.size := by have := HT7.out.kept.size; rw [hw8]; simpa [World.setCell] using this
              have HK8 := Lib.hid (And.intro hk8 hs8)
              clear hk8 hs8
              obtain ⟨bq, hbq⟩ : ∃ bq, bq = wr.heap.size := ⟨_, rfl⟩
              rw [← hbq] at hn8 hz8 ⊢
              clear hbq hw8
              obtain ⟨y0, y1, y2, y3, -⟩ := bx_cell (d := actD d act) hz8
              obtain ⟨x0, x1, x2, x3, xf⟩ := bx_cell hn8.box
              have g0 := xf 0
              have g1 := xf 1
              have g2 := xf 2
              have g3 := xf 3
              clear xf
              have HN8 := Lib.hid hn8
              clear hn8 hz8
              refine wpAnyH_done (by kernel_rfl) ?_ _
              go_upto_region 25 with fail
              have ht9 := HN8.out.put.fewer (Z' := (fun k => Own C5 S6 k ∨ k = b)) (fun k hk => Or.inl hk) TR.out.zb
              clear y0 y1 y2 y3 x0 x1 x2 x3 g0 g1 g2 g3
              obtain ⟨w9, hw9⟩ : ∃ w9, w9 = ((((w8.setCell ⟨b, 0, none⟩ (.slice A7 n7 c7)).setCell ⟨b, 1, none⟩ (.slice A8 n8 c8)).setCell ⟨b, 2, none⟩ (.int .i64 (actD d act).armed)).setCell ⟨b, 3, none⟩ (.bool (actD d act).off)) := ⟨_, rfl⟩
              have hk9 : ∀ k, k < wr.heap.size → ¬ S8 k → k ≠ b → w9.heap[k]? = wr.heap[k]? := fun k h1 h2 h3 => by rw [hw9, set4_block _ _ _ _ _ _ k h3]; exact HK8.out.1 k h1 h2
              have hs9 : wr.heap.size ≤ w9.heap.size := by have := HK8.out.2; rw [hw9]; simpa [World.setCell] using this
              have HCH := Lib.hid (And.intro hk9 (And.intro hs9 (show ∀ k, S7 k → S8 k ∨ wr.heap.size ≤ k from HT7.out.new)))
              rw [← hw9] at ht9 ⊢
              have T9 := Lib.hid ht9
              clear ht9 hw9 hk9 hs9
              have hlc9 : Live C5 w w9 S6 q (runD dA (lb.take k2)) := LR.out.mate TR.out.live.dk T9.out.live.dk (fun k hk hr => HCH.out.1 k (C5.foot LR.out.dk k hk) (fun hx => TR.out.sz k hx (Or.inl ⟨hk, hr⟩)) (fun e => HNS.out (by rw [← e]; exact hk))) T9.out.live.below
              have LC9 := Lib.hid hlc9
              clear hlc9
              have HL9 := Lib.hid (Nat.le_trans (actD_lenL d act) (Nat.succ_le_succ HDL.out))
              rw [← HRN.out] at T9 HL9
              go_wp2_with fail
              go_roundw
              case rel => exact ⟨i + 1, S7, A7, n7, c7, A8, n8, c8, by omega, by omega, by go_num, HL9.out, T9.out, LC9.out⟩
              case measure => simp [intOf]; omega
          · have hge : ¬ ((i : Int) < (m' : Int)) ∨ ((i : Int) < (m' : Int) ∧ ¬ (i : Int) < 15) := by omega
            have hki : i = min m' 15 := by omega
            have HKI := Lib.hid hki
            clear hlt hki
            rcases hge with hge | ⟨hge1, hge2⟩
            all_goals
              go_wp2_with fail
              go_meet
              exact ⟨S8, A11, n11, c11, A12, n12, c12, i, HKI.out, TR.out, LR.out⟩
      case rest =>
        obtain ⟨S8, A11, n11, c11, A12, n12, c12, k3, hk3, htw, hlc⟩ := hcut
        have hk23 : k3 = k2 := by rw [hk3, HK2.out]
        rw [hk23] at htw
        generalize runD dA (lb.take k2) = D at htw hlc
        have LD := Lib.hid htw.live
        have LC := Lib.hid hlc
        clear htw hlc hk3 hk23
        obtain ⟨o, ho⟩ : ∃ o, o = D.off := ⟨_, rfl⟩
        obtain ⟨nl, hnl⟩ : ∃ nl, nl = D.L.length := ⟨_, rfl⟩
        have hdn := fun (W : World) (Sx : Nat → Prop) (px : Nat) (h : Live C5 w W Sx px D) => live_down E5 h
        have hwt := fun (W : World) (Sx : Nat → Prop) (px : Nat) (h : Live C5 w W Sx px D) => live_waits h
        rw [← ho] at hdn
        rw [← hnl] at hwt
        have HDN := Lib.hid hdn
        have HWT := Lib.hid hwt
        clear hdn hwt ho hnl
        go_wp2_with fail
        refine (HDN.out _ _ _ LC.out).mono ?_
        rintro y w10 ⟨rfl, h10, hb10⟩
        have LC1 := Lib.hid h10
        have LD1 := Lib.hid (LD.out.more hb10)
        clear h10 hb10
        go_wp2_with fail
        refine (HDN.out _ _ _ LD1.out).mono ?_
        rintro y w11 ⟨rfl, h11, hb11⟩
        have LD2 := Lib.hid h11
        have LC2 := Lib.hid (LC1.out.more hb11)
        clear h11 hb11
        go_wp2_with fail
        refine (HWT.out _ _ _ LC2.out).mono ?_
        rintro y w12 ⟨rfl, h12, hb12⟩
        have LC3 := Lib.hid h12
        have LD3 := Lib.hid (LD2.out.more hb12)
        clear h12 hb12
        go_wp2_with fail
        refine (HWT.out _ _ _ LD3.out).mono ?_
        rintro y w13 ⟨rfl, h13, hb13⟩
        have LD4 := Lib.hid h13
        clear h13 hb13
        go_wp2_with (go_at_call 16; go_must (refine (sure_any B _).mono ?_; rintro y w14 ⟨rfl, hb14⟩; have HB14 := Lib.hid (LD4.out.below.trans (hb14.mono LD4.out.size)); clear hb14))
        go_ret
        exact ⟨rfl, HB14.out⟩

end Go.Proofs.YtlhagbcomnjnoaaDoor.pk
