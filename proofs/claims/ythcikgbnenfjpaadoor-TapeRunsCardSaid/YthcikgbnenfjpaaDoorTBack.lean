/-
  The law TapeBack's own walk.
-/
import Derived.Test.YthcikgbnenfjpaaDoorSureT
import Derived.Test.YthcikgbnenfjpaaDoorListL
import Derived.Test.YthcikgbnenfjpaaDoorNum
import Derived.Test.YthcikgbnenfjpaaDoorTailQ
import Derived.Outline
import Derived.Lib.QuietBelow
import Derived.BigQuiet
namespace Go.Proofs.YthcikgbnenfjpaaDoor.pk
open Go Go.RowKit
set_option maxRecDepth 100000

theorem size_of (size : Int) : ∃ N : Nat, 5 ≤ N ∧ N < 305 ∧ wrap64 (5 + wrap64 ((IntKind.u64.wrap size).tmod 300)) = (N : Int) := by
  have h0 : 0 ≤ IntKind.u64.wrap size := by rw [IntKind.wrap_u64]; omega
  generalize IntKind.u64.wrap size = u at h0
  have h1 : u.tmod 300 = u % 300 := Int.tmod_eq_emod_of_nonneg h0
  rw [h1]
  have e1 : wrap64 (u % 300) = u % 300 := by unfold wrap64; omega
  rw [e1]
  have e2 : wrap64 (5 + u % 300) = 5 + u % 300 := by unfold wrap64; omega
  rw [e2]
  exact ⟨(5 + u % 300).toNat, by omega, by omega, by omega⟩

/-- A row of the law's own beside a tape. -/
def Beside (S : Nat → Prop) (q : Nat) (v : Value) : Prop := ∀ k, v.ownBlock = some k → ¬ SQ S q k
theorem Beside.turn {S S' : Nat → Prop} {q : Nat} {v : Value} {w w' : World} {B : Nat} {Q : Nat → Prop} {l : List (List UInt8)} (h : Beside S q v) (ho : OwnL w B Q v l) (ht : Turn (SQ S q) (SQ S' q) w w') : Beside S' q v := fun k hk hs => by
  rcases ht.new k hs with h1 | h1
  · exact h k hk h1
  · have := (ho.lt k hk).2
    omega
theorem OwnL.turn {S S' : Nat → Prop} {q : Nat} {v : Value} {w0 w w' : World} {B : Nat} {l : List (List UInt8)} (h : OwnL w B (fun k => k < w0.heap.size) v l) (hb : Beside S q v) (hl : ∀ k, SQ S q k → w0.heap.size ≤ k) (ht : Turn (SQ S q) (SQ S' q) w w') : OwnL w' B (fun k => k < w0.heap.size) v l :=
  h.kept (fun k hk hq => ht.kept.block k hk (fun hs => by
    rcases hq with hq | hq
    · have := hl k hs; omega
    · exact hb k hq hs)) ht.kept.size

/-- An argument's bytes, for the law's row. -/
theorem for_row {w W : World} {v u : Value} {x : List UInt8} {l : List (List UInt8)} (h : SlT w (fun k => k < w.heap.size) u x) (hb : Below w.heap.size w W) (ho : OwnL W w.heap.size (fun k => k < w.heap.size) v l) :
    SlT W (fun k => k < w.heap.size ∧ k < W.heap.size ∧ v.ownBlock ≠ some k) u x :=
  (h.kept fun k hk _ => hb.block k hk).mono fun k hk => ⟨hk, Nat.lt_of_lt_of_le hk hb.size, fun e => by have := (ho.lt k e).1; omega⟩
theorem Beside.grown {S : Nat → Prop} {q : Nat} {v v' : Value} {w : World} (h : Beside S q v) (hs : ∀ k, SQ S q k → k < w.heap.size) (hn : v'.ownBlock = v.ownBlock ∨ v'.ownBlock = some w.heap.size) : Beside S q v' := fun k hk hs' => by
  rcases hn with hn | hn
  · exact h k (hn ▸ hk) hs'
  · rw [hn] at hk
    injection hk with hk
    have := hs k hs'
    omega

theorem Tp.sq_lt {C : ConD} {w : World} {S : Nat → Prop} {q p : Nat} {d : Dk} {t : Tm} (h : Tp C w S q p d t) : ∀ k, SQ S q k → k < w.heap.size := fun k hk => by
  rcases hk with hk | hk
  · exact C.foot h.dk k hk
  · rw [hk]; exact h.box.lt
/-- The law's row has grown: the tape stays. -/
theorem LT.grown {C : ConD} {w0 w W W' : World} {S : Nat → Prop} {q p : Nat} {d : Dk} {t : Tm} {row : Option Nat} (h : LT C w0 w S q p d t) (hb : Below w.heap.size w W) (hg : W.grownBy W' row) (hr : ∀ k, row = some k → ¬ SQ S q k ∧ w0.heap.size ≤ k) : LT C w0 W' S q p d t := by
  have hk : ∀ k, SQ S q k → W'.heap[k]? = w.heap[k]? := fun k hk => by
    have hlt := h.tp.sq_lt k hk
    exact (hg.block k (Nat.lt_of_lt_of_le hlt hb.size) (fun e => (hr k e.symm).1 hk)).trans (hb.block k hlt)
  exact ⟨⟨C.frame h.tp.dk fun k hs => hk k (Or.inl hs), by unfold TBox; rw [hk q (Or.inr rfl)]; exact h.tp.box, h.tp.out, h.tp.dis, h.tp.five, h.tp.fin, h.tp.num⟩, h.low, h.lowq,
    (h.below.trans (hb.mono h.size)).grown hg (Nat.le_trans h.size hb.size) (fun k hk => (hr k hk).2)⟩

/-- What holds of the tape, the law's row, and what is left. -/
structure BackI (C : ConD) (w W : World) (S : Nat → Prop) (q p N : Nat) (v : Value) (L : Nat) (d : Dk) (t : Tm) (l : List (List UInt8)) : Prop where
  lt : LT C w W S q p d t
  st : TState d t l
  at0 : t.at_ = 0
  len : t.len = N
  arm : d.armed < 0
  own : OwnL W w.heap.size (fun k => k < w.heap.size) v l
  by_ : Beside S q v
  left : L + t.fin = N
  few : l.length ≤ N

set_option maxHeartbeats 4000000 in
theorem back_true {Q : ConD → Prop} (C : ConD) (B : ConB Q C) (A : Option Addr) (m c : Nat) (ls : List (List UInt8)) (size : Int) (w : World) (hs : Std w) (h : ListsT w (fun k => k < w.heap.size) (.slice A m c) ls) (hi : inI size) :
    Calls Tryd.prog 6 #[.slice A m c, .int .i64 size] w fun x w' => x = .returned (.bool true) ∧ Below w.heap.size w w' := by
  obtain ⟨A1, c1, hv, hmc, hcm⟩ := h.form
  injection hv with e1 e2 e3
  subst e1; subst e3
  have HM := Lib.hid e2
  have hmB : (m : Int) ≤ 9223372036854775807 := by omega
  have H := Lib.hid h
  have HS := Lib.hid hs
  unfold inI at hi
  obtain ⟨hi1, hi2⟩ := hi
  clear h hs e2 hmc hcm
  go_enter Tryd.func6, Tryd.ntmps6
  go_upto_region 2 with fail
  obtain ⟨N, hN1, hN2, hN⟩ := size_of size
  rw [hN]
  have hNI : (N : Int) < 305 := by omega
  have hNI5 : 5 ≤ (N : Int) := by omega
  have hr0 := rests_new N 0 N (by omega) hN1
  have HR0 := Lib.hid hr0
  clear hN hr0
  go_upto_region 3 with (go_at_call 8; go_must (refine (live_new B w N (by omega) (by omega) (N : Int) rfl).mono ?_; rintro y w1 ⟨p, S, rfl, h1⟩; have L1 := Lib.hid h1; clear h1))
  go_upto_region 4 with (go_at_call 11; go_must (refine (live_open L1.out 0 N HR0.out).mono ?_; rintro y w2 ⟨q, v, rfl, h2, ho2, -, -, -⟩; obtain ⟨Av, cv, rfl, -, -⟩ := ho2.form; have T2 := Lib.hid h2; clear h2 ho2))
  go_upto_block 0 with fail
  have B0 : BackI C w w2 S q p N (.slice none 0 0) N (newD N) (openT 0 N []) [] :=
    ⟨T2.out, HR0.out.state, rfl, rfl, by show (-1 : Int) < 0; omega, OwnL.nil_ _ _ _, fun k hk => (by cases hk), by show N + 0 = N; omega, Nat.zero_le _⟩
  have HB0 := Lib.hid B0
  clear B0
  go_cut [11, 12, 13] (fun v left _ W => ∃ (S2 : Nat → Prop) (L : Nat) (d : Dk) (t : Tm) (l : List (List UInt8)), left = .int .i64 (L : Int) ∧ BackI C w W S2 q p N v L d t l)
  case first =>
    go_wp2_with fail
    go_loopw [11, 12, 13] (fun v left ii wr => ∃ (i : Nat) (S2 : Nat → Prop) (L : Nat) (d : Dk) (t : Tm) (l : List (List UInt8)), i ≤ 40 ∧ i ≤ m ∧ ii = .int .i64 (i : Int) ∧ left = .int .i64 (L : Int) ∧ BackI C w wr S2 q p N v L d t l) (fun _ _ ii _ => 40 - (intOf ii).toNat)
    case atStart => exact ⟨0, S, N, _, _, [], by omega, by omega, rfl, rfl, HB0.out⟩
    case round =>
      obtain ⟨i, S2, L, d, t, l, hi, him, rfl, rfl, hbk⟩ := hrel
      obtain ⟨A3, c3, rfl, -, -⟩ := hbk.own.form
      have LR := Lib.hid hbk
      have hLN : (L : Int) ≤ (N : Int) := by have := hbk.left; omega
      clear hbk
      by_cases hlt : i < m ∧ i < 40
      · obtain ⟨hlt1, hlt2⟩ := hlt
        obtain ⟨b, off, Ai, ci, rfl, hb, hcell, hsl⟩ := H.out.at_ i (by have := HM.out; omega)
        obtain ⟨x, hx⟩ : ∃ x, x = ls[i]'(by have := HM.out; omega) := ⟨_, rfl⟩
        rw [← hx] at hcell hsl
        obtain ⟨lx, hlx⟩ : ∃ lx, lx = x.length := ⟨_, rfl⟩
        rw [← hlx] at hcell hsl
        have hq := (LR.out.lt.below.cell (p := ⟨b, off + i, none⟩) hb).trans hcell
        have HC := Lib.hid (And.intro hb (And.intro hcell (And.intro hsl hlx)))
        have i1 : (i : Int) < (m : Int) := by omega
        have i2 : (i : Int) < 40 := by omega
        have i0 : (0 : Int) ≤ (i : Int) := by omega
        clear hb hcell hsl hx hlx
        by_cases hbig : 1000 < lx
        · have i3 : 1000 < (lx : Int) := by omega
          go_wp2_with fail
          go_roundw
          case rel => exact ⟨i + 1, S2, L, d, t, l, by omega, by omega, by go_num, rfl, LR.out⟩
          case measure => simp [intOf]; omega
        · have i3 : ¬ 1000 < (lx : Int) := by omega
          have i3' : (lx : Int) ≤ 1000 := by omega
          by_cases hfit : t.fin + 5 + lx ≤ N
          · have ap := append_calm LR.out.st LR.out.arm (b := x) (by rw [LR.out.len, ← HC.out.2.2.2]; exact hfit) (by rw [← HC.out.2.2.2]; omega)
            have HA := Lib.hid ap
            have HAA := Lib.hid (app_armed t x LR.out.arm)
            have i4 : 5 + (lx : Int) ≤ (L : Int) := by have := LR.out.left; omega
            have cA := lt_append LR.out.lt LR.out.st Ai lx ci x (by rw [← HC.out.2.2.2]; omega) (by rw [LR.out.len, ← HC.out.2.2.2]; exact hfit) (HC.out.2.2.1.kept fun k hk _ => LR.out.lt.below.block k hk)
            rw [HA.out.1, er_zero] at cA
            have CA := Lib.hid cA
            clear ap cA
            go_upto_region 13 with (go_at_call 18; go_must (refine CA.out.mono ?_; rintro y w3 ⟨S3, rfl, h3, ht3⟩; have T3 := Lib.hid (And.intro h3 (And.intro (LR.out.own.turn LR.out.by_ (sq_low LR.out.lt.low LR.out.lt.lowq) ht3) (LR.out.by_.turn LR.out.own ht3))); clear h3 ht3))
            clear hq
            have hq3 := (T3.out.1.below.cell (p := ⟨b, off + i, none⟩) HC.out.1).trans HC.out.2.1
            go_quiet (fail)
            have PB := Lib.hid (And.intro ((Below.drawn (Below.refl w3.heap.size w3) nq).alloc (Nat.le_refl _) (.cells #[.slice Ai lx ci] 22)) (T3.out.1.below.trans (((Below.drawn (Below.refl w3.heap.size w3) nq).alloc (Nat.le_refl _) (.cells #[.slice Ai lx ci] 22)).mono T3.out.1.size)))
            go_upto_region 17 with (at_builtin; go_must (refine wpList_push (B := w.heap.size) (Q := fun k => k < w.heap.size) (v := .slice A3 l.length c3) (l := l) (T3.out.2.1.more PB.out.1) rfl (.tmp 91) (.tmp 96) rfl rfl (w3.drewN nq).heap.size Ai lx ci rfl (heap_alloc_new _ _) x (for_row HC.out.2.2.1 PB.out.2 (T3.out.2.1.more PB.out.1)) (by have := LR.out.few; omega) PB.out.2.size ?_; intro v5 w5 ho5 hg5 hn5; have O5 := Lib.hid (And.intro ho5 (And.intro hg5 hn5)); clear ho5 hg5 hn5))
            have hl5 := T3.out.1.grown PB.out.1 O5.out.2.1 (fun k hk => ⟨T3.out.2.2 k hk, (T3.out.2.1.lt k hk).1⟩)
            have hb5 := T3.out.2.2.grown (w := (w3.drewN nq).alloc (.cells #[.slice Ai lx ci] 22)) (fun k hk => Nat.lt_of_lt_of_le (T3.out.1.tp.sq_lt k hk) PB.out.1.size) O5.out.2.2
            have hq5 := (hl5.below.cell (p := ⟨b, off + i, none⟩) HC.out.1).trans HC.out.2.1
            have L5 := Lib.hid (And.intro hl5 hb5)
            have NL := Lib.hid (show ((L - 5 - lx : Nat) : Int) = (L : Int) - 5 - (lx : Int) by omega)
            clear hl5 hb5 hq3
            go_wp2_with fail
            go_roundw
            case rel => exact ⟨i + 1, S3, L - 5 - lx, _, _, _, by omega, by omega, by go_num, by rw [NL.out], ⟨L5.out.1, HA.out.2.1, LR.out.at0, LR.out.len, HAA.out, O5.out.1, L5.out.2, by
              have := LR.out.left
              have := HC.out.2.2.2
              show L - 5 - lx + (t.fin + 5 + x.length) = N
              omega, by
              have h1 := HA.out.2.1.fits
              have h2 := HA.out.2.1.fin
              have h3 := encL_ge (l ++ [x])
              have h4 : (appT t x 0).len = N := LR.out.len
              omega⟩⟩
            case measure => simp [intOf]; omega
          · have i4 : ¬ 5 + (lx : Int) ≤ (L : Int) := by have := LR.out.left; omega
            have CF := Lib.hid (lt_full LR.out.lt LR.out.st Ai lx ci (by omega) (by rw [LR.out.len]; omega))
            have hE : er 10 = .iface 58 (.int .i64 10) := rfl
            rw [hE] at CF
            go_upto_region 13 with (go_at_call 18; go_must (refine CF.out.mono ?_; rintro y w3 ⟨rfl, h3, hb3⟩; have T3 := Lib.hid (And.intro h3 hb3); clear h3 hb3))
            clear hq hE
            have hq3 := (T3.out.1.below.cell (p := ⟨b, off + i, none⟩) HC.out.1).trans HC.out.2.1
            have k3 := cell_regrown hq3
            have hstd : Std w3 := HS.out.below HS.out.size T3.out.1.below
            have cN : ∀ d os, Calls Tryd.prog 12 #[.iface 58 (.int .i64 10)] (Sort.grow (redrawn w3 d) os) fun e w'' => e = .returned (.int .i64 10) ∧ ∃ p : Regrown, w'' = Sort.grow (redrawn w3 p.d) p.os :=
              fun d os => Calls.regrown_of (num_some 10 _ (hstd.below hstd.size (below_regrown w3 d os)))
            have i4d : decide (5 + (lx : Int) ≤ (L : Int)) = false := decide_eq_false (by omega)
            have iw5 : IntKind.i64.wrap (5 + (lx : Int)) = 5 + (lx : Int) := IntWalk.i64_in _ (by omega)
            clear hq3 hstd
            refine wp_region_quiet_below (by kernel_rfl) (by kernel_rfl) ?_
            repeat (go_big_quiet_step (exact cN _ _))
            refine wpQuiet_nil ?_
            intro _ hw'
            obtain ⟨⟨dq, osq⟩, hw''⟩ := hw'
            subst hw''
            clear cN k3 iw5 i4d
            have T4 := Lib.hid (And.intro (T3.out.1.more (below_regrown w3 dq osq)) (T3.out.2.trans ((below_regrown w3 dq osq).mono T3.out.2.size)))
            go_wp2_with fail
            go_roundw
            case rel => exact ⟨i + 1, S2, L, d, t, l, by omega, by omega, by go_num, rfl, ⟨T4.out.1, LR.out.st, LR.out.at0, LR.out.len, LR.out.arm, LR.out.own.more T4.out.2, LR.out.by_, LR.out.left, LR.out.few⟩⟩
            case measure => simp [intOf]; omega
      · have hge : ¬ ((i : Int) < (m : Int)) ∨ ((i : Int) < (m : Int) ∧ ¬ (i : Int) < 40) := by omega
        clear hlt
        rcases hge with hge | ⟨hge1, hge2⟩
        all_goals
          go_wp2_with fail
          go_meet
          exact ⟨S2, L, d, t, l, rfl, LR.out⟩
  case rest =>
    obtain ⟨S2, L, d, t, l, rfl, hbk⟩ := hcut
    have hrs := hbk.st.rests
    rw [hbk.at0, hbk.len] at hrs
    have LR := Lib.hid hbk
    obtain ⟨A3, c3, rfl, -, -⟩ := hbk.own.form
    have HRS := Lib.hid hrs
    have HNN := Lib.hid hbk.st.num
    clear hbk hrs
    go_upto_region 19 with (go_at_call 11; go_must (refine (live_open LR.out.lt.live 0 N HRS.out).mono ?_; rintro y w6 ⟨q6, v6, rfl, h6, ho6, -, -, hb6⟩; obtain ⟨A6, c6, rfl, -, -⟩ := ho6.form; have T6 := Lib.hid (And.intro h6 (And.intro (ho6.lists (fun k => True) (fun _ _ _ => trivial) (fun _ _ => trivial)) (And.intro ((LR.out.own.more hb6).lists (fun k => True) (fun _ _ _ => trivial) (fun _ _ => trivial)) (LR.out.lt.more hb6)))); clear h6 ho6 hb6))
    have CL := Lib.hid (list_any (fun k => True) (fun k => True) _ _ _ _ _ _ l l _ T6.out.2.1 T6.out.2.2.1 true (decide_eq_true rfl).symm)
    have n1 : ((l.length : Nat) : Int) = ((l.length : Nat) : Int) := rfl
    clear n1
    go_wp2_with (first
      | (go_at_call 7; (refine (sure_any B w7).mono ?_; rintro y w8 ⟨rfl, hb8⟩; have HB8 := Lib.hid (T7.out.1.below.trans (hb8.mono T7.out.1.size)); clear hb8))
      | (go_at_call 15; (first | (refine (lt_len T7.out.1).mono ?_; rintro y w9 ⟨rfl, rfl⟩) | (refine (lt_len T7.out.2).mono ?_; rintro y w9 ⟨rfl, rfl⟩; rw [HNN.out])))
      | (go_at_call 14; go_must (refine CL.out.mono ?_; rintro y w7 ⟨rfl, hb7⟩; have T7 := Lib.hid (And.intro (T6.out.1.more hb7) (T6.out.2.2.2.more hb7)); clear hb7)))
    go_ret
    exact ⟨rfl, HB8.out⟩

end Go.Proofs.YthcikgbnenfjpaaDoor.pk
