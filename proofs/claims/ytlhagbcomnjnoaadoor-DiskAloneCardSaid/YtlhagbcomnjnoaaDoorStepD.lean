/-
  The law's own 'step': one thing done to both; the answers are the same.
-/
import Derived.Test.YtlhagbcomnjnoaaDoorRefBack
import Derived.Test.YtlhagbcomnjnoaaDoorActs
import Derived.Test.YtlhagbcomnjnoaaDoorConE
import Derived.Test.YtlhagbcomnjnoaaDoorOwnD
import Derived.Test.YtlhagbcomnjnoaaDoorNum
namespace Go.Proofs.YtlhagbcomnjnoaaDoor.pk
open Go Go.RowKit
set_option maxRecDepth 100000

theorem num_ev (k : Nat) (w : World) (hs : Std w) :
    Calls Tryd.prog 8 #[er k] w fun x w' => x = .returned (.int .i64 (k : Int)) ∧ Below w.heap.size w w' := num_any k w hs

theorem Live.blocks {C : ConD} {w0 w w' : World} {S : Nat → Prop} {p : Nat} {d : Dk} (h : Live C w0 w S p d) (hk : ∀ k, S k → w'.heap[k]? = w.heap[k]?) (hb : Below w0.heap.size w w') : Live C w0 w' S p d :=
  ⟨C.frame h.dk hk, h.low, h.below.trans hb⟩
theorem RD.kept {w w' : World} {T : Nat → Prop} {vB vL : Value} {d : Dk} (h : RD w T vB vL d) (hk : ∀ k, T k → k < w.heap.size → w'.heap[k]? = w.heap[k]?) : RD w' T vB vL d :=
  ⟨h.b.kept hk, h.l.kept hk, h.ok, h.one, h.big, h.few, h.arm⟩

theorem armD_same (d : Dk) (n : Int) : (armD d n).L = d.L ∧ (armD d n).B = d.B := by
  unfold armD
  by_cases hn : n < 0
  · rw [if_pos hn]; exact ⟨rfl, rfl⟩
  · rw [if_neg hn]; exact ⟨rfl, rfl⟩
theorem armD_arm {d : Dk} (h : inJ d.armed) {n : Int} (hn : inI n) : inJ (armD d n).armed := by
  unfold armD
  by_cases h0 : n < 0
  · rw [if_pos h0]; exact h
  · rw [if_neg h0]; exact ⟨by show -1 ≤ n; omega, hn.2⟩
/-- What an act makes of a disk. -/
def actK (a : Ac) : Nat := ((a.kind % 18446744073709551616) % 8).toNat
def actD (d : Dk) (a : Ac) : Dk :=
  if actK a = 3 ∨ actK a = 4 then syncD d else if actK a = 5 then d else if actK a = 6 then armD d a.n else if actK a = 7 then startD d a.keep else putD d a.at_ a.data
theorem actD_lenL (d : Dk) (a : Ac) : (actD d a).L.length ≤ d.L.length + 1 := by
  unfold actD
  split
  · have := syncD_lenL d; omega
  · split
    · omega
    · split
      · have := (armD_len d a.n).2; omega
      · split
        · exact Nat.zero_le _
        · exact putD_lenL d _ _
theorem actD_len {d : Dk} (h : d.Ok) (a : Ac) : (actD d a).B.length = d.B.length := by
  unfold actD
  split
  · exact syncD_len h
  · split
    · rfl
    · split
      · exact (armD_len d a.n).1
      · split
        · exact startD_len h _
        · exact putD_len d _ _

theorem three_blocks (w : World) (t1 t2 t3 : Nat) (bs as_ rs : Array Value) :
    ∃ W1 W2 W3, W1 = w.alloc (.cells bs t1) ∧ W2 = W1.alloc (.cells as_ t2) ∧ W3 = W2.alloc (.cells rs t3) ∧ Below w.heap.size w W3 ∧ W3.heap.size = w.heap.size + 3 ∧
      (∀ j v, bs[j]? = some v → W3.cell? ⟨w.heap.size, j, none⟩ = some v ∧ W3.frozen? ⟨w.heap.size, j, none⟩ = false) ∧
      (∀ j v, as_[j]? = some v → W3.cell? ⟨w.heap.size + 1, j, none⟩ = some v ∧ W3.frozen? ⟨w.heap.size + 1, j, none⟩ = false) ∧
      (∀ j v, rs[j]? = some v → W3.cell? ⟨w.heap.size + 2, j, none⟩ = some v ∧ W3.frozen? ⟨w.heap.size + 2, j, none⟩ = false) := by
  obtain ⟨W1, hW1⟩ : ∃ W1, W1 = w.alloc (.cells bs t1) := ⟨_, rfl⟩
  obtain ⟨W2, hW2⟩ : ∃ W2, W2 = W1.alloc (.cells as_ t2) := ⟨_, rfl⟩
  obtain ⟨W3, hW3⟩ : ∃ W3, W3 = W2.alloc (.cells rs t3) := ⟨_, rfl⟩
  have s1 : W1.heap.size = w.heap.size + 1 := by rw [hW1, World.size_alloc]
  have s2 : W2.heap.size = w.heap.size + 2 := by rw [hW2, World.size_alloc, s1]
  have s3 : W3.heap.size = w.heap.size + 3 := by rw [hW3, World.size_alloc, s2]
  have b1 : Below w.heap.size w W1 := by rw [hW1]; exact (Below.refl _ _).alloc (Nat.le_refl _) _
  have b2 : Below W1.heap.size W1 W2 := by rw [hW2]; exact (Below.refl _ _).alloc (Nat.le_refl _) _
  have b3 : Below W2.heap.size W2 W3 := by rw [hW3]; exact (Below.refl _ _).alloc (Nat.le_refl _) _
  refine ⟨W1, W2, W3, hW1, hW2, hW3, b1.trans ((b2.trans (b3.mono (by omega))).mono (by omega)), s3, ?_, ?_, ?_⟩
  · intro j v hj
    rw [b3.cell (p := ⟨w.heap.size, j, none⟩) (by show w.heap.size < _; omega), b3.frozen (p := ⟨w.heap.size, j, none⟩) (by show w.heap.size < _; omega), b2.cell (p := ⟨w.heap.size, j, none⟩) (by show w.heap.size < _; omega), b2.frozen (p := ⟨w.heap.size, j, none⟩) (by show w.heap.size < _; omega), hW1, cell_of_row _ w.heap.size _ _ _ (0, 0) (heap_alloc_new w _)]
    exact ⟨hj, frozen_of_row _ w.heap.size j _ _ (heap_alloc_new w _)⟩
  · intro j v hj
    rw [b3.cell (p := ⟨w.heap.size + 1, j, none⟩) (by show w.heap.size + 1 < _; omega), b3.frozen (p := ⟨w.heap.size + 1, j, none⟩) (by show w.heap.size + 1 < _; omega), ← s1, hW2, cell_of_row _ W1.heap.size _ _ _ (0, 0) (heap_alloc_new W1 _)]
    exact ⟨hj, frozen_of_row _ W1.heap.size j _ _ (heap_alloc_new W1 _)⟩
  · intro j v hj
    rw [← s2, hW3, cell_of_row _ W2.heap.size _ _ _ (0, 0) (heap_alloc_new W2 _)]
    exact ⟨hj, frozen_of_row _ W2.heap.size j _ _ (heap_alloc_new W2 _)⟩

/-- A block that is there and lies outside of the footprint. -/
theorem Turn.cell {S S' : Nat → Prop} {w w' : World} (h : Turn S S' w w') {p : Addr} (hp : p.block < w.heap.size) (hn : ¬ S p.block) : w'.cell? p = w.cell? p ∧ w'.frozen? p = w.frozen? p :=
  ⟨World.cell?_of_block (w := w) (h.kept.block p.block hp hn), World.frozen?_of_block (w := w) (h.kept.block p.block hp hn)⟩

set_option maxHeartbeats 8000000 in
theorem step_any (C : ConD) (E : ConE C) (w0 w : World) (S Z : Nat → Prop) (p : Nat) (vB vL : Value) (d : Dk) (a : Ac) (Ad Ak : Option Addr) (nd cd nk ck : Nat) (hs : Std w0) (hl : Live C w0 w S p d) (hr : RD w (Av w (fun k => S k ∨ Z k)) vB vL d) (hok : a.ok) (hZ : ∀ k, Z k → k < w.heap.size)
    (hd : SlT w (Av w (fun k => S k ∨ Z k)) (.slice Ad nd cd) a.data) (hk : IntsT w (Av w (fun k => S k ∨ Z k)) (.slice Ak nk ck) a.keep) (hfew : d.L.length < 99990) :
    Calls Tryd.prog 19 #[.pointer (some ⟨p, 0, none⟩), rdv vB vL d, .agg #[.int .i64 a.kind, .int .i64 a.at_, .int .i64 a.n, .slice Ad nd cd, .slice Ak nk ck]] w fun x w' =>
      ∃ S' vB' vL', x = .returned (.tuple #[rdv vB' vL' (actD d a), .bool true]) ∧ Live C w0 w' S' p (actD d a) ∧ RD w' (Av w' (fun k => S' k ∨ Z k)) vB' vL' (actD d a) ∧ Turn S S' w w' := by
  have hres : Tryd.f19.results = #[.cell 6 41, .tmp 7] := by kernel_rfl
  obtain ⟨AB, nB, cB, rfl⟩ := hr.b.form
  obtain ⟨AL, cL, hvL, _, _⟩ := hr.l.form
  obtain ⟨nL, hnL⟩ : ∃ nL, nL = d.L.length := ⟨_, rfl⟩
  rw [← hnL] at hvL
  subst hvL
  obtain ⟨W1, W2, W3, hW1, hW2, hW3, hb3, hs3, hbx, hax, hrx⟩ := three_blocks w 41 48 41 #[.slice AB nB cB, .slice AL nL cL, .int .i64 d.armed, .bool d.off] #[.int .i64 a.kind, .int .i64 a.at_, .int .i64 a.n, .slice Ad nd cd, .slice Ak nk ck] #[.slice none 0 0, .slice none 0 0, .int .i64 0, .bool false]
  have hSl : ∀ k, S k → k < w.heap.size := C.foot hl.dk
  have hl3 := hl.more hb3
  have htb : Turn (fun k => S k ∨ Z k) (fun k => S k ∨ (Z k ∨ (w.heap.size ≤ k ∧ k < w.heap.size + 3))) w W3 := ⟨Kept.of_below hb3, fun k hk => by rcases hk with hk | hk | hk; exact Or.inl (Or.inl hk); exact Or.inl (Or.inr hk); exact Or.inr hk.1⟩
  have hav : ∀ k, Av W3 (fun k => S k ∨ Z k) k → Av W3 S k := fun k hk => ⟨hk.1, fun hs => hk.2 (Or.inl hs)⟩
  have HZ := Lib.hid hZ
  have HS := Lib.hid hs
  have HL := Lib.hid hl3
  have HR := Lib.hid (hr.turn htb)
  have HD := Lib.hid ((hd.turn (Turn.of_below hb3)).mono hav)
  have HDZ := Lib.hid ((hd.turn htb))
  have HK := Lib.hid ((RowT.turn hk (Turn.of_below hb3)).mono hav)
  have HKZ := Lib.hid ((RowT.turn hk htb))
  have HOK := Lib.hid hok
  have hcb : ∀ (S4 : Nat → Prop) (W : World), Turn S S4 W3 W → (∀ j v, (#[.slice AB nB cB, .slice AL nL cL, .int .i64 d.armed, .bool d.off] : Array Value)[j]? = some v → W.cell? ⟨w.heap.size, j, none⟩ = some v ∧ W.frozen? ⟨w.heap.size, j, none⟩ = false) ∧
      (∀ j v, (#[.int .i64 a.kind, .int .i64 a.at_, .int .i64 a.n, .slice Ad nd cd, .slice Ak nk ck] : Array Value)[j]? = some v → W.cell? ⟨w.heap.size + 1, j, none⟩ = some v) ∧
      (∀ j v, (#[.slice none 0 0, .slice none 0 0, .int .i64 0, .bool false] : Array Value)[j]? = some v → W.cell? ⟨w.heap.size + 2, j, none⟩ = some v ∧ W.frozen? ⟨w.heap.size + 2, j, none⟩ = false) := fun S4 W ht =>
    ⟨fun j v hj => by
      have h1 := ht.cell (p := ⟨w.heap.size, j, none⟩) (by show w.heap.size < _; omega) (fun hx => by have := hSl _ hx; simp at this)
      rw [h1.1, h1.2]; exact hbx j v hj,
    fun j v hj => by
      have h1 := ht.cell (p := ⟨w.heap.size + 1, j, none⟩) (by show w.heap.size + 1 < _; omega) (fun hx => by have := hSl _ hx; simp at this; omega)
      rw [h1.1]; exact (hax j v hj).1,
    fun j v hj => by
      have h1 := ht.cell (p := ⟨w.heap.size + 2, j, none⟩) (by show w.heap.size + 2 < _; omega) (fun hx => by have := hSl _ hx; simp at this; omega)
      rw [h1.1, h1.2]; exact hrx j v hj⟩
  have HCB := Lib.hid hcb
  have HB3 := Lib.hid (And.intro hb3 (And.intro hs3 hSl))
  have HFEW := Lib.hid hfew
  have HG := Lib.hid (show 1 ≤ w0.heap.size from hs.size)
  have HW := Lib.hid (show w0.heap.size ≤ w.heap.size from hl.size)
  unfold rdv
  obtain ⟨q0, -⟩ := hbx 0 _ rfl
  obtain ⟨q1, -⟩ := hbx 1 _ rfl
  obtain ⟨q2, -⟩ := hbx 2 _ rfl
  obtain ⟨q3, -⟩ := hbx 3 _ rfl
  obtain ⟨a0, -⟩ := hax 0 _ rfl
  obtain ⟨a1, -⟩ := hax 1 _ rfl
  obtain ⟨a2, -⟩ := hax 2 _ rfl
  obtain ⟨a3, -⟩ := hax 3 _ rfl
  obtain ⟨a4, -⟩ := hax 4 _ rfl
  have hwr : IntKind.u64.wrap a.kind = a.kind % 18446744073709551616 := IntKind.wrap_u64 a.kind
  have hz0 : 0 ≤ a.kind % 18446744073709551616 := by omega
  have hmt : (a.kind % 18446744073709551616).tmod 8 = (actK a : Int) := by
    rw [Int.tmod_eq_emod_of_nonneg hz0]
    unfold actK
    omega
  have hk8 : actK a < 8 := by unfold actK; omega
  have HACT : Hid (actD d a = if actK a = 3 ∨ actK a = 4 then syncD d else if actK a = 5 then d else if actK a = 6 then armD d a.n else if actK a = 7 then startD d a.keep else putD d a.at_ a.data) := Lib.hid rfl
  generalize a.kind % 18446744073709551616 = z at hwr hmt
  generalize actK a = k at hmt hk8 HACT
  have hwu : IntKind.u64.wrap (k : Int) = (k : Int) := by rw [IntKind.wrap_u64]; omega
  have hwi : IntKind.i64.wrap (k : Int) = (k : Int) := IntWalk.i64_in _ (by omega)
  clear hs hl hr hd hk hok hfew hbx hax hrx hcb hb3 hs3 hSl hl3 htb hz0 hnL hav hZ
  rcases (show k = 3 ∨ k = 4 ∨ k = 5 ∨ k = 6 ∨ k = 7 ∨ k = 0 ∨ k = 1 ∨ k = 2 by omega) with rfl | rfl | rfl | rfl | rfl | rfl | rfl | rfl
  · go_enter Tryd.func19, Tryd.ntmps19
    go_upto_region 7 with fail
    rw [← hW1, ← hW2, ← hW3]
    clear hW1 hW2 hW3
    go_upto_region 8 with (go_at_call 10; go_must (refine (live_sync HL.out).mono ?_; rintro y w4 ⟨S4, rfl, h4, ht4⟩; have HL4 := Lib.hid h4; have HT4 := Lib.hid ht4; clear h4 ht4))
    clear q0 q1 q2 q3 a0 a1 a2 a3 a4
    obtain ⟨q0, -⟩ := (HCB.out S4 w4 HT4.out).1 0 _ rfl
    obtain ⟨q1, -⟩ := (HCB.out S4 w4 HT4.out).1 1 _ rfl
    obtain ⟨q2, -⟩ := (HCB.out S4 w4 HT4.out).1 2 _ rfl
    obtain ⟨q3, -⟩ := (HCB.out S4 w4 HT4.out).1 3 _ rfl
    have a0 := (HCB.out S4 w4 HT4.out).2.1 0 _ rfl
    have a1 := (HCB.out S4 w4 HT4.out).2.1 1 _ rfl
    have a2 := (HCB.out S4 w4 HT4.out).2.1 2 _ rfl
    have a3 := (HCB.out S4 w4 HT4.out).2.1 3 _ rfl
    have a4 := (HCB.out S4 w4 HT4.out).2.1 4 _ rfl
    have HZ4 := Lib.hid (HR.out.turn (HT4.out.beside (T := fun k => Z k ∨ (w.heap.size ≤ k ∧ k < w.heap.size + 3))))
    have href := RefSync_any _ _ d w4 _ HZ4.out
    unfold rdv at href
    have HREF := Lib.hid href
    clear href
    go_upto_region 19 with (go_at_call 28; go_must (refine HREF.out.mono ?_; rintro y w5 ⟨vB5, vL5, rfl, hrd5, hb5⟩; have HT5 := Lib.hid (HT4.out.trans (Turn.of_below hb5)); obtain ⟨A6, c6, e6, _, _⟩ := hrd5.l.form; obtain ⟨n6, hn6⟩ : ∃ n6, n6 = (syncD d).L.length := ⟨_, rfl⟩; rw [← hn6] at e6; clear hn6; subst e6; obtain ⟨A5, n5, c5, rfl⟩ := hrd5.b.form; obtain ⟨p0, g0⟩ := (HCB.out S4 w5 HT5.out).1 0 _ rfl; obtain ⟨p1, g1⟩ := (HCB.out S4 w5 HT5.out).1 1 _ rfl; obtain ⟨p2, g2⟩ := (HCB.out S4 w5 HT5.out).1 2 _ rfl; obtain ⟨p3, g3⟩ := (HCB.out S4 w5 HT5.out).1 3 _ rfl; have HRD5 := Lib.hid hrd5; have HB5 := Lib.hid hb5; clear hrd5 hb5))
    have HDD : Hid (actD d a = (syncD d)) := Lib.hid (by rw [HACT.out]; rfl)
    have HL5 := Lib.hid (HL4.out.more HB5.out)
    have HNUM : Hid (∀ W, Below w0.heap.size w0 W → Calls Tryd.prog 8 #[er (syncE d)] W fun x w' => x = .returned (.int .i64 (((syncE d) : Nat) : Int)) ∧ Below W.heap.size W w') := Lib.hid fun W hW => num_ev _ W (HS.out.below HG.out hW)
    generalize (syncD d) = DD at HRD5 HL5 HDD
    obtain ⟨W6, hW6⟩ : ∃ W6, W6 = (((w5.setCell ⟨w.heap.size, 0, none⟩ (.slice A5 n5 c5)).setCell ⟨w.heap.size, 1, none⟩ (.slice A6 n6 c6)).setCell ⟨w.heap.size, 2, none⟩ (.int .i64 DD.armed)).setCell ⟨w.heap.size, 3, none⟩ (.bool DD.off) := ⟨_, rfl⟩
    rw [← hW6]
    have hc6 : ∀ j v, (#[.slice A5 n5 c5, .slice A6 n6 c6, .int .i64 DD.armed, .bool DD.off] : Array Value)[j]? = some v → W6.cell? ⟨w.heap.size, j, none⟩ = some v := by rw [hW6]; exact set4_cell _ _ _ _ p0 p1 p2 p3
    have hk6 : ∀ k, k ≠ w.heap.size → W6.heap[k]? = w5.heap[k]? := fun k hk => by rw [hW6]; exact set4_block _ _ _ _ _ _ k hk
    have hs6 : W6.heap.size = w5.heap.size := by rw [hW6]; simp [World.setCell]
    have hb6 : Below w0.heap.size w0 W6 := by rw [hW6]; exact set4_below HL5.out.below HW.out _ _ _ _
    have h53 : w.heap.size + 3 ≤ w5.heap.size := by have := HT5.out.kept.size; have := HB3.out.2.1; omega
    have hr6 : ∀ j v, (#[.slice none 0 0, .slice none 0 0, .int .i64 0, .bool false] : Array Value)[j]? = some v → ∀ W, Below W6.heap.size W6 W → W.cell? ⟨w.heap.size + 2, j, none⟩ = some v ∧ W.frozen? ⟨w.heap.size + 2, j, none⟩ = false := by
      intro j v hj W hW
      rw [hW.cell (p := ⟨w.heap.size + 2, j, none⟩) (by show w.heap.size + 2 < _; omega), hW.frozen (p := ⟨w.heap.size + 2, j, none⟩) (by show w.heap.size + 2 < _; omega), World.cell?_of_block (w := w5) (a := ⟨w.heap.size + 2, j, none⟩) (hk6 _ (by show w.heap.size + 2 ≠ _; omega)), World.frozen?_of_block (w := w5) (a := ⟨w.heap.size + 2, j, none⟩) (hk6 _ (by show w.heap.size + 2 ≠ _; omega))]
      exact (HCB.out S4 w5 HT5.out).2.2 j v hj
    have hn6 := HNUM.out W6.drew hb6.drew
    have hd : W6.drew.cell? ⟨w.heap.size, 0, none⟩ = some (.slice A5 n5 c5) ∧ W6.drew.cell? ⟨w.heap.size, 1, none⟩ = some (.slice A6 n6 c6) ∧ W6.drew.cell? ⟨w.heap.size, 2, none⟩ = some (.int .i64 DD.armed) ∧ W6.drew.cell? ⟨w.heap.size, 3, none⟩ = some (.bool DD.off) := by
      simp only [World.cell?_drew]
      exact ⟨hc6 0 _ rfl, hc6 1 _ rfl, hc6 2 _ rfl, hc6 3 _ rfl⟩
    have HN6 := Lib.hid hn6
    have HC6 := Lib.hid (And.intro hc6 (And.intro hk6 (And.intro hs6 (And.intro h53 hr6))))
    have HB6 := Lib.hid hb6
    clear p0 p1 p2 p3 g0 g1 g2 g3 q0 q1 q2 q3 a0 a1 a2 a3 a4 hc6 hk6 hs6 h53 hr6 hb6 hn6 hW6
    go_wp2_with fail
    refine wp_region_held_drew (S := fun W => W.cell? ⟨w.heap.size, 0, none⟩ = some (.slice A5 n5 c5) ∧ W.cell? ⟨w.heap.size, 1, none⟩ = some (.slice A6 n6 c6) ∧ W.cell? ⟨w.heap.size, 2, none⟩ = some (.int .i64 DD.armed) ∧ W.cell? ⟨w.heap.size, 3, none⟩ = some (.bool DD.off)) (by kernel_rfl) hd (fun hHeld => ?_)
    clear hd
    refine wpAnyH_take (i := 0) (oi := { dst := Option.some 100, op := Op.load 41 (Operand.tmp 4), type := 41, pos := "law.go:72", after := #[], guard := Option.none }) (v := .agg #[.slice A5 n5 c5, .slice A6 n6 c6, .int .i64 DD.armed, .bool DD.off]) rfl (by kernel_rfl) (by kernel_rfl) (by kernel_rfl) (fun _ _ _ h => h) (Or.inl ⟨by rfl, ?_⟩) hHeld ?_
    · intro W hSw
      obtain ⟨q0, q1, q2, q3⟩ := hSw
      go_simp
    simp only [Act.put, List.setIfInBounds_toArray, List.set_cons_zero, List.set_cons_succ]
    refine wpAnyH_take (i := 1) (oi := { dst := Option.some 101, op := Op.move (Operand.tmp 8), type := 26, pos := "law.go:72", after := #[], guard := Option.none }) (v := er (syncE d)) rfl (by kernel_rfl) (by kernel_rfl) (by kernel_rfl) (fun _ _ _ h => h) (Or.inl ⟨by rfl, ?_⟩) hHeld ?_
    · intro W hSw
      obtain ⟨q0, q1, q2, q3⟩ := hSw
      go_simp
    simp only [Act.put, List.setIfInBounds_toArray, List.set_cons_zero, List.set_cons_succ]
    refine wpAnyH_take (i := 3) (oi := { dst := Option.some 103, op := Op.move (Operand.tmp 9), type := 3, pos := "law.go:72", after := #[{ on := 5, ground := Ground.gcOnly Departure.lateStores }], guard := Option.none }) (v := .int .i64 ((syncE d) : Int)) rfl (by kernel_rfl) (by kernel_rfl) (by kernel_rfl) (fun _ _ _ h => h) (Or.inl ⟨by rfl, ?_⟩) hHeld ?_
    · intro W hSw
      go_simp
    simp only [Act.put, List.setIfInBounds_toArray, List.set_cons_zero, List.set_cons_succ]
    refine wpAnyH_ready (rs := [2]) (by kernel_rfl) (by simp) ?_
    refine AllReadyH.cons (o := { dst := Option.some 102, op := Op.call { callee := Callee.value (Operand.func 8), args := #[Operand.tmp 101], argTypes := #[26] }, type := 3, pos := "law.go:72", after := #[{ on := 1, ground := Ground.data }], guard := Option.none }) rfl (fun K hK => ?_) AllReadyH.nil
    go_simp
    refine HN6.out.mono ?_
    rintro y w7 ⟨rfl, hb7⟩
    have h7 : Below W6.heap.size W6 w7 := (Below.refl _ _).drew.trans hb7
    have hlt : w.heap.size < W6.heap.size := by have := HC6.out.2.2.1; have := HC6.out.2.2.2.1; omega
    have hq7 : ∀ j, w7.cell? ⟨w.heap.size, j, none⟩ = W6.cell? ⟨w.heap.size, j, none⟩ := fun j => h7.cell (p := ⟨w.heap.size, j, none⟩) hlt
    have hd7 : w7.cell? ⟨w.heap.size, 0, none⟩ = some (.slice A5 n5 c5) ∧ w7.cell? ⟨w.heap.size, 1, none⟩ = some (.slice A6 n6 c6) ∧ w7.cell? ⟨w.heap.size, 2, none⟩ = some (.int .i64 DD.armed) ∧ w7.cell? ⟨w.heap.size, 3, none⟩ = some (.bool DD.off) :=
      ⟨(hq7 0).trans (HC6.out.1 0 _ rfl), (hq7 1).trans (HC6.out.1 1 _ rfl), (hq7 2).trans (HC6.out.1 2 _ rfl), (hq7 3).trans (HC6.out.1 3 _ rfl)⟩
    obtain ⟨r0, f0⟩ := HC6.out.2.2.2.2 0 _ rfl w7 h7
    obtain ⟨r1, f1⟩ := HC6.out.2.2.2.2 1 _ rfl w7 h7
    obtain ⟨r2, f2⟩ := HC6.out.2.2.2.2 2 _ rfl w7 h7
    obtain ⟨r3, f3⟩ := HC6.out.2.2.2.2 3 _ rfl w7 h7
    have HB7 := Lib.hid h7
    have HD7 := Lib.hid hd7
    clear h7 hlt hq7 hb7 hHeld hd7
    refine hK.out _ _ HD7.out (fun hHeld => ?_)
    clear hK K
    refine wpAnyH_take (i := 4) (oi := { dst := Option.some 104, op := Op.binOp BinOp.eql 3 (Operand.tmp 102) (Operand.tmp 103) 3, type := 4, pos := "law.go:72", after := #[{ on := 2, ground := Ground.data }, { on := 3, ground := Ground.data }, { on := 5, ground := Ground.gcOnly Departure.lateStores }], guard := Option.none }) (v := .bool true) rfl (by kernel_rfl) (by kernel_rfl) (by kernel_rfl) (fun _ _ _ h => h) (Or.inl ⟨by rfl, ?_⟩) hHeld ?_
    · intro W hSw
      go_simp
    simp only [Act.put, List.setIfInBounds_toArray, List.set_cons_zero, List.set_cons_succ]
    refine wpAnyH_ready (rs := [5]) (by kernel_rfl) (by simp) ?_
    refine AllReadyH.cons (o := { dst := Option.none, op := Op.store 41 (Operand.tmp 6) (Operand.tmp 100), type := 0, pos := "law.go:72", after := #[{ on := 0, ground := Ground.data }, { on := 2, ground := Ground.chain }, { on := 0, ground := Ground.phase }, { on := 1, ground := Ground.textOnly Departure.lateStores }, { on := 2, ground := Ground.textOnly Departure.lateStoresUnsure }, { on := 3, ground := Ground.textOnly Departure.lateStores }, { on := 4, ground := Ground.textOnly Departure.lateStores }], guard := Option.none }) rfl (fun K hK => ?_) AllReadyH.nil
    go_simp
    have hd8 : ∀ j v, w7.cell? ⟨w.heap.size, j, none⟩ = some v → ((((w7.setCell ⟨w.heap.size + 2, 0, none⟩ (.slice A5 n5 c5)).setCell ⟨w.heap.size + 2, 1, none⟩ (.slice A6 n6 c6)).setCell ⟨w.heap.size + 2, 2, none⟩ (.int .i64 DD.armed)).setCell ⟨w.heap.size + 2, 3, none⟩ (.bool DD.off)).cell? ⟨w.heap.size, j, none⟩ = some v := fun j v hj => by
      rw [World.cell?_setCell_other _ _ _ _ (by simp), World.cell?_setCell_other _ _ _ _ (by simp), World.cell?_setCell_other _ _ _ _ (by simp), World.cell?_setCell_other _ _ _ _ (by simp)]
      exact hj
    refine hK.out _ _ ⟨hd8 0 _ HD7.out.1, hd8 1 _ HD7.out.2.1, hd8 2 _ HD7.out.2.2.1, hd8 3 _ HD7.out.2.2.2⟩ (fun hHeld => ?_)
    clear hK K hd8
    refine wpAnyH_take (i := 6) (oi := { dst := Option.some 7, op := Op.assign (Operand.tmp 104), type := 4, pos := "law.go:72", after := #[{ on := 4, ground := Ground.data }, { on := 5, ground := Ground.chain }, { on := 0, ground := Ground.phase }, { on := 1, ground := Ground.phase }, { on := 2, ground := Ground.phase }, { on := 3, ground := Ground.phase }, { on := 4, ground := Ground.phase }, { on := 5, ground := Ground.phase }], guard := Option.none }) (v := .bool true) rfl (by kernel_rfl) (by kernel_rfl) (by kernel_rfl) (fun _ _ _ h => h) (Or.inl ⟨by rfl, ?_⟩) hHeld ?_
    · intro W hSw
      go_simp
    simp only [Act.put, List.setIfInBounds_toArray, List.set_cons_zero, List.set_cons_succ]
    clear hHeld
    refine wpAnyH_done (by kernel_rfl) ?_ _
    go_wp2_with fail
    obtain ⟨WF, hWF⟩ : ∃ WF, WF = (((w7.setCell ⟨w.heap.size + 2, 0, none⟩ (.slice A5 n5 c5)).setCell ⟨w.heap.size + 2, 1, none⟩ (.slice A6 n6 c6)).setCell ⟨w.heap.size + 2, 2, none⟩ (.int .i64 DD.armed)).setCell ⟨w.heap.size + 2, 3, none⟩ (.bool DD.off) := ⟨_, rfl⟩
    have hsF : WF.heap.size = w7.heap.size := by rw [hWF]; simp [World.setCell]
    have hkF : ∀ k, k < w5.heap.size → k ≠ w.heap.size → k ≠ w.heap.size + 2 → WF.heap[k]? = w5.heap[k]? := fun k h1 h2 h3 => by
      rw [hWF, set4_block _ _ _ _ _ _ k h3, HB7.out.block k (by have := HC6.out.2.2.1; omega)]
      exact HC6.out.2.1 k h2
    have hw07 : w0.heap.size ≤ w.heap.size + 2 := by have := HW.out; omega
    have hbF : Below w0.heap.size w0 WF := by rw [hWF]; exact set4_below (HB6.out.trans (HB7.out.mono HB6.out.size)) hw07 _ _ _ _
    have hT : Turn S S4 w w5 := (Turn.of_below HB3.out.1).trans HT5.out
    have hSn : ∀ k, S4 k → k < w4.heap.size ∧ (k < w.heap.size ∨ w.heap.size + 3 ≤ k) := fun k hk => by
      refine ⟨C.foot HL4.out.dk k hk, ?_⟩
      rcases HT4.out.new k hk with h1 | h1
      · exact Or.inl (HB3.out.2.2 k h1)
      · have := HB3.out.2.1; exact Or.inr (by omega)
    have hsz : w5.heap.size ≤ WF.heap.size := by have := HC6.out.2.2.1; have := HB7.out.size; omega
    have h45 : w4.heap.size ≤ w5.heap.size := HB5.out.size
    have h34 : w.heap.size + 3 ≤ w4.heap.size := by have := HT4.out.kept.size; have := HB3.out.2.1; omega
    have hLF : Live C w0 WF S4 p DD := ⟨C.frame HL5.out.dk fun k hk => by have := hSn k hk; exact hkF k (by omega) (by omega) (by omega), HL5.out.low, hbF⟩
    have hRF : RD WF (Av WF (fun k => S4 k ∨ Z k)) (.slice A5 n5 c5) (.slice A6 n6 c6) DD := by
      refine (HRD5.out.kept fun k hk hlt => ?_).mono fun k hk => ?_
      · rcases hk with hk | hk
        · have hz := hk.2
          exact hkF k hlt (fun e => hz (Or.inr (Or.inr (by omega)))) (fun e => hz (Or.inr (Or.inr (by omega))))
        · exact hkF k hlt (by omega) (by omega)
      · rcases hk with hk | hk
        · exact ⟨by have := hk.1; omega, fun hs => hs.elim (fun h => hk.2 (Or.inl h)) (fun h => hk.2 (Or.inr (Or.inl h)))⟩
        · exact ⟨by omega, fun hs => by rcases hs with hs | hs; exact (by have := (hSn k hs).1; omega); exact (by have := HZ.out k hs; omega)⟩
    have hTF : Turn S S4 w WF := ⟨⟨hbF.os.trans (by rw [← HB3.out.1.os, HL.out.below.os]), hbF.tape.trans (by rw [← HB3.out.1.tape, HL.out.below.tape]), hbF.output.trans (by rw [← HB3.out.1.output, HL.out.below.output]), by have := hT.kept.size; omega, fun k hk hn => (hkF k (by have := hT.kept.size; omega) (by omega) (by omega)).trans (hT.kept.block k hk hn)⟩, hT.new⟩
    have HF := Lib.hid (And.intro hWF (And.intro hLF (And.intro hRF hTF)))
    clear hWF hsF hkF hw07 hbF hT hSn hsz h45 h34 hLF hRF hTF
    refine bodyPost_ret (v := .tuple #[.agg #[.slice A5 n5 c5, .slice A6 n6 c6, .int .i64 DD.armed, .bool DD.off], .bool true]) ?_ rfl ⟨S4, .slice A5 n5 c5, .slice A6 n6 c6, by rw [HDD.out], ?_, ?_, ?_⟩
    · simp only [results, hres]
      go_simp
    · rw [HDD.out, ← HF.out.1]; exact HF.out.2.1
    · rw [HDD.out, ← HF.out.1]; exact HF.out.2.2.1
    · rw [← HF.out.1]; exact HF.out.2.2.2
  · go_enter Tryd.func19, Tryd.ntmps19
    go_upto_region 7 with fail
    rw [← hW1, ← hW2, ← hW3]
    clear hW1 hW2 hW3
    go_upto_region 8 with (go_at_call 10; go_must (refine (live_sync HL.out).mono ?_; rintro y w4 ⟨S4, rfl, h4, ht4⟩; have HL4 := Lib.hid h4; have HT4 := Lib.hid ht4; clear h4 ht4))
    clear q0 q1 q2 q3 a0 a1 a2 a3 a4
    obtain ⟨q0, -⟩ := (HCB.out S4 w4 HT4.out).1 0 _ rfl
    obtain ⟨q1, -⟩ := (HCB.out S4 w4 HT4.out).1 1 _ rfl
    obtain ⟨q2, -⟩ := (HCB.out S4 w4 HT4.out).1 2 _ rfl
    obtain ⟨q3, -⟩ := (HCB.out S4 w4 HT4.out).1 3 _ rfl
    have a0 := (HCB.out S4 w4 HT4.out).2.1 0 _ rfl
    have a1 := (HCB.out S4 w4 HT4.out).2.1 1 _ rfl
    have a2 := (HCB.out S4 w4 HT4.out).2.1 2 _ rfl
    have a3 := (HCB.out S4 w4 HT4.out).2.1 3 _ rfl
    have a4 := (HCB.out S4 w4 HT4.out).2.1 4 _ rfl
    have HZ4 := Lib.hid (HR.out.turn (HT4.out.beside (T := fun k => Z k ∨ (w.heap.size ≤ k ∧ k < w.heap.size + 3))))
    have href := RefSync_any _ _ d w4 _ HZ4.out
    unfold rdv at href
    have HREF := Lib.hid href
    clear href
    go_upto_region 19 with (go_at_call 28; go_must (refine HREF.out.mono ?_; rintro y w5 ⟨vB5, vL5, rfl, hrd5, hb5⟩; have HT5 := Lib.hid (HT4.out.trans (Turn.of_below hb5)); obtain ⟨A6, c6, e6, _, _⟩ := hrd5.l.form; obtain ⟨n6, hn6⟩ : ∃ n6, n6 = (syncD d).L.length := ⟨_, rfl⟩; rw [← hn6] at e6; clear hn6; subst e6; obtain ⟨A5, n5, c5, rfl⟩ := hrd5.b.form; obtain ⟨p0, g0⟩ := (HCB.out S4 w5 HT5.out).1 0 _ rfl; obtain ⟨p1, g1⟩ := (HCB.out S4 w5 HT5.out).1 1 _ rfl; obtain ⟨p2, g2⟩ := (HCB.out S4 w5 HT5.out).1 2 _ rfl; obtain ⟨p3, g3⟩ := (HCB.out S4 w5 HT5.out).1 3 _ rfl; have HRD5 := Lib.hid hrd5; have HB5 := Lib.hid hb5; clear hrd5 hb5))
    have HDD : Hid (actD d a = (syncD d)) := Lib.hid (by rw [HACT.out]; rfl)
    have HL5 := Lib.hid (HL4.out.more HB5.out)
    have HNUM : Hid (∀ W, Below w0.heap.size w0 W → Calls Tryd.prog 8 #[er (syncE d)] W fun x w' => x = .returned (.int .i64 (((syncE d) : Nat) : Int)) ∧ Below W.heap.size W w') := Lib.hid fun W hW => num_ev _ W (HS.out.below HG.out hW)
    generalize (syncD d) = DD at HRD5 HL5 HDD
    obtain ⟨W6, hW6⟩ : ∃ W6, W6 = (((w5.setCell ⟨w.heap.size, 0, none⟩ (.slice A5 n5 c5)).setCell ⟨w.heap.size, 1, none⟩ (.slice A6 n6 c6)).setCell ⟨w.heap.size, 2, none⟩ (.int .i64 DD.armed)).setCell ⟨w.heap.size, 3, none⟩ (.bool DD.off) := ⟨_, rfl⟩
    rw [← hW6]
    have hc6 : ∀ j v, (#[.slice A5 n5 c5, .slice A6 n6 c6, .int .i64 DD.armed, .bool DD.off] : Array Value)[j]? = some v → W6.cell? ⟨w.heap.size, j, none⟩ = some v := by rw [hW6]; exact set4_cell _ _ _ _ p0 p1 p2 p3
    have hk6 : ∀ k, k ≠ w.heap.size → W6.heap[k]? = w5.heap[k]? := fun k hk => by rw [hW6]; exact set4_block _ _ _ _ _ _ k hk
    have hs6 : W6.heap.size = w5.heap.size := by rw [hW6]; simp [World.setCell]
    have hb6 : Below w0.heap.size w0 W6 := by rw [hW6]; exact set4_below HL5.out.below HW.out _ _ _ _
    have h53 : w.heap.size + 3 ≤ w5.heap.size := by have := HT5.out.kept.size; have := HB3.out.2.1; omega
    have hr6 : ∀ j v, (#[.slice none 0 0, .slice none 0 0, .int .i64 0, .bool false] : Array Value)[j]? = some v → ∀ W, Below W6.heap.size W6 W → W.cell? ⟨w.heap.size + 2, j, none⟩ = some v ∧ W.frozen? ⟨w.heap.size + 2, j, none⟩ = false := by
      intro j v hj W hW
      rw [hW.cell (p := ⟨w.heap.size + 2, j, none⟩) (by show w.heap.size + 2 < _; omega), hW.frozen (p := ⟨w.heap.size + 2, j, none⟩) (by show w.heap.size + 2 < _; omega), World.cell?_of_block (w := w5) (a := ⟨w.heap.size + 2, j, none⟩) (hk6 _ (by show w.heap.size + 2 ≠ _; omega)), World.frozen?_of_block (w := w5) (a := ⟨w.heap.size + 2, j, none⟩) (hk6 _ (by show w.heap.size + 2 ≠ _; omega))]
      exact (HCB.out S4 w5 HT5.out).2.2 j v hj
    have hn6 := HNUM.out W6.drew hb6.drew
    have hd : W6.drew.cell? ⟨w.heap.size, 0, none⟩ = some (.slice A5 n5 c5) ∧ W6.drew.cell? ⟨w.heap.size, 1, none⟩ = some (.slice A6 n6 c6) ∧ W6.drew.cell? ⟨w.heap.size, 2, none⟩ = some (.int .i64 DD.armed) ∧ W6.drew.cell? ⟨w.heap.size, 3, none⟩ = some (.bool DD.off) := by
      simp only [World.cell?_drew]
      exact ⟨hc6 0 _ rfl, hc6 1 _ rfl, hc6 2 _ rfl, hc6 3 _ rfl⟩
    have HN6 := Lib.hid hn6
    have HC6 := Lib.hid (And.intro hc6 (And.intro hk6 (And.intro hs6 (And.intro h53 hr6))))
    have HB6 := Lib.hid hb6
    clear p0 p1 p2 p3 g0 g1 g2 g3 q0 q1 q2 q3 a0 a1 a2 a3 a4 hc6 hk6 hs6 h53 hr6 hb6 hn6 hW6
    go_wp2_with fail
    refine wp_region_held_drew (S := fun W => W.cell? ⟨w.heap.size, 0, none⟩ = some (.slice A5 n5 c5) ∧ W.cell? ⟨w.heap.size, 1, none⟩ = some (.slice A6 n6 c6) ∧ W.cell? ⟨w.heap.size, 2, none⟩ = some (.int .i64 DD.armed) ∧ W.cell? ⟨w.heap.size, 3, none⟩ = some (.bool DD.off)) (by kernel_rfl) hd (fun hHeld => ?_)
    clear hd
    refine wpAnyH_take (i := 0) (oi := { dst := Option.some 100, op := Op.load 41 (Operand.tmp 4), type := 41, pos := "law.go:72", after := #[], guard := Option.none }) (v := .agg #[.slice A5 n5 c5, .slice A6 n6 c6, .int .i64 DD.armed, .bool DD.off]) rfl (by kernel_rfl) (by kernel_rfl) (by kernel_rfl) (fun _ _ _ h => h) (Or.inl ⟨by rfl, ?_⟩) hHeld ?_
    · intro W hSw
      obtain ⟨q0, q1, q2, q3⟩ := hSw
      go_simp
    simp only [Act.put, List.setIfInBounds_toArray, List.set_cons_zero, List.set_cons_succ]
    refine wpAnyH_take (i := 1) (oi := { dst := Option.some 101, op := Op.move (Operand.tmp 8), type := 26, pos := "law.go:72", after := #[], guard := Option.none }) (v := er (syncE d)) rfl (by kernel_rfl) (by kernel_rfl) (by kernel_rfl) (fun _ _ _ h => h) (Or.inl ⟨by rfl, ?_⟩) hHeld ?_
    · intro W hSw
      obtain ⟨q0, q1, q2, q3⟩ := hSw
      go_simp
    simp only [Act.put, List.setIfInBounds_toArray, List.set_cons_zero, List.set_cons_succ]
    refine wpAnyH_take (i := 3) (oi := { dst := Option.some 103, op := Op.move (Operand.tmp 9), type := 3, pos := "law.go:72", after := #[{ on := 5, ground := Ground.gcOnly Departure.lateStores }], guard := Option.none }) (v := .int .i64 ((syncE d) : Int)) rfl (by kernel_rfl) (by kernel_rfl) (by kernel_rfl) (fun _ _ _ h => h) (Or.inl ⟨by rfl, ?_⟩) hHeld ?_
    · intro W hSw
      go_simp
    simp only [Act.put, List.setIfInBounds_toArray, List.set_cons_zero, List.set_cons_succ]
    refine wpAnyH_ready (rs := [2]) (by kernel_rfl) (by simp) ?_
    refine AllReadyH.cons (o := { dst := Option.some 102, op := Op.call { callee := Callee.value (Operand.func 8), args := #[Operand.tmp 101], argTypes := #[26] }, type := 3, pos := "law.go:72", after := #[{ on := 1, ground := Ground.data }], guard := Option.none }) rfl (fun K hK => ?_) AllReadyH.nil
    go_simp
    refine HN6.out.mono ?_
    rintro y w7 ⟨rfl, hb7⟩
    have h7 : Below W6.heap.size W6 w7 := (Below.refl _ _).drew.trans hb7
    have hlt : w.heap.size < W6.heap.size := by have := HC6.out.2.2.1; have := HC6.out.2.2.2.1; omega
    have hq7 : ∀ j, w7.cell? ⟨w.heap.size, j, none⟩ = W6.cell? ⟨w.heap.size, j, none⟩ := fun j => h7.cell (p := ⟨w.heap.size, j, none⟩) hlt
    have hd7 : w7.cell? ⟨w.heap.size, 0, none⟩ = some (.slice A5 n5 c5) ∧ w7.cell? ⟨w.heap.size, 1, none⟩ = some (.slice A6 n6 c6) ∧ w7.cell? ⟨w.heap.size, 2, none⟩ = some (.int .i64 DD.armed) ∧ w7.cell? ⟨w.heap.size, 3, none⟩ = some (.bool DD.off) :=
      ⟨(hq7 0).trans (HC6.out.1 0 _ rfl), (hq7 1).trans (HC6.out.1 1 _ rfl), (hq7 2).trans (HC6.out.1 2 _ rfl), (hq7 3).trans (HC6.out.1 3 _ rfl)⟩
    obtain ⟨r0, f0⟩ := HC6.out.2.2.2.2 0 _ rfl w7 h7
    obtain ⟨r1, f1⟩ := HC6.out.2.2.2.2 1 _ rfl w7 h7
    obtain ⟨r2, f2⟩ := HC6.out.2.2.2.2 2 _ rfl w7 h7
    obtain ⟨r3, f3⟩ := HC6.out.2.2.2.2 3 _ rfl w7 h7
    have HB7 := Lib.hid h7
    have HD7 := Lib.hid hd7
    clear h7 hlt hq7 hb7 hHeld hd7
    refine hK.out _ _ HD7.out (fun hHeld => ?_)
    clear hK K
    refine wpAnyH_take (i := 4) (oi := { dst := Option.some 104, op := Op.binOp BinOp.eql 3 (Operand.tmp 102) (Operand.tmp 103) 3, type := 4, pos := "law.go:72", after := #[{ on := 2, ground := Ground.data }, { on := 3, ground := Ground.data }, { on := 5, ground := Ground.gcOnly Departure.lateStores }], guard := Option.none }) (v := .bool true) rfl (by kernel_rfl) (by kernel_rfl) (by kernel_rfl) (fun _ _ _ h => h) (Or.inl ⟨by rfl, ?_⟩) hHeld ?_
    · intro W hSw
      go_simp
    simp only [Act.put, List.setIfInBounds_toArray, List.set_cons_zero, List.set_cons_succ]
    refine wpAnyH_ready (rs := [5]) (by kernel_rfl) (by simp) ?_
    refine AllReadyH.cons (o := { dst := Option.none, op := Op.store 41 (Operand.tmp 6) (Operand.tmp 100), type := 0, pos := "law.go:72", after := #[{ on := 0, ground := Ground.data }, { on := 2, ground := Ground.chain }, { on := 0, ground := Ground.phase }, { on := 1, ground := Ground.textOnly Departure.lateStores }, { on := 2, ground := Ground.textOnly Departure.lateStoresUnsure }, { on := 3, ground := Ground.textOnly Departure.lateStores }, { on := 4, ground := Ground.textOnly Departure.lateStores }], guard := Option.none }) rfl (fun K hK => ?_) AllReadyH.nil
    go_simp
    have hd8 : ∀ j v, w7.cell? ⟨w.heap.size, j, none⟩ = some v → ((((w7.setCell ⟨w.heap.size + 2, 0, none⟩ (.slice A5 n5 c5)).setCell ⟨w.heap.size + 2, 1, none⟩ (.slice A6 n6 c6)).setCell ⟨w.heap.size + 2, 2, none⟩ (.int .i64 DD.armed)).setCell ⟨w.heap.size + 2, 3, none⟩ (.bool DD.off)).cell? ⟨w.heap.size, j, none⟩ = some v := fun j v hj => by
      rw [World.cell?_setCell_other _ _ _ _ (by simp), World.cell?_setCell_other _ _ _ _ (by simp), World.cell?_setCell_other _ _ _ _ (by simp), World.cell?_setCell_other _ _ _ _ (by simp)]
      exact hj
    refine hK.out _ _ ⟨hd8 0 _ HD7.out.1, hd8 1 _ HD7.out.2.1, hd8 2 _ HD7.out.2.2.1, hd8 3 _ HD7.out.2.2.2⟩ (fun hHeld => ?_)
    clear hK K hd8
    refine wpAnyH_take (i := 6) (oi := { dst := Option.some 7, op := Op.assign (Operand.tmp 104), type := 4, pos := "law.go:72", after := #[{ on := 4, ground := Ground.data }, { on := 5, ground := Ground.chain }, { on := 0, ground := Ground.phase }, { on := 1, ground := Ground.phase }, { on := 2, ground := Ground.phase }, { on := 3, ground := Ground.phase }, { on := 4, ground := Ground.phase }, { on := 5, ground := Ground.phase }], guard := Option.none }) (v := .bool true) rfl (by kernel_rfl) (by kernel_rfl) (by kernel_rfl) (fun _ _ _ h => h) (Or.inl ⟨by rfl, ?_⟩) hHeld ?_
    · intro W hSw
      go_simp
    simp only [Act.put, List.setIfInBounds_toArray, List.set_cons_zero, List.set_cons_succ]
    clear hHeld
    refine wpAnyH_done (by kernel_rfl) ?_ _
    go_wp2_with fail
    obtain ⟨WF, hWF⟩ : ∃ WF, WF = (((w7.setCell ⟨w.heap.size + 2, 0, none⟩ (.slice A5 n5 c5)).setCell ⟨w.heap.size + 2, 1, none⟩ (.slice A6 n6 c6)).setCell ⟨w.heap.size + 2, 2, none⟩ (.int .i64 DD.armed)).setCell ⟨w.heap.size + 2, 3, none⟩ (.bool DD.off) := ⟨_, rfl⟩
    have hsF : WF.heap.size = w7.heap.size := by rw [hWF]; simp [World.setCell]
    have hkF : ∀ k, k < w5.heap.size → k ≠ w.heap.size → k ≠ w.heap.size + 2 → WF.heap[k]? = w5.heap[k]? := fun k h1 h2 h3 => by
      rw [hWF, set4_block _ _ _ _ _ _ k h3, HB7.out.block k (by have := HC6.out.2.2.1; omega)]
      exact HC6.out.2.1 k h2
    have hw07 : w0.heap.size ≤ w.heap.size + 2 := by have := HW.out; omega
    have hbF : Below w0.heap.size w0 WF := by rw [hWF]; exact set4_below (HB6.out.trans (HB7.out.mono HB6.out.size)) hw07 _ _ _ _
    have hT : Turn S S4 w w5 := (Turn.of_below HB3.out.1).trans HT5.out
    have hSn : ∀ k, S4 k → k < w4.heap.size ∧ (k < w.heap.size ∨ w.heap.size + 3 ≤ k) := fun k hk => by
      refine ⟨C.foot HL4.out.dk k hk, ?_⟩
      rcases HT4.out.new k hk with h1 | h1
      · exact Or.inl (HB3.out.2.2 k h1)
      · have := HB3.out.2.1; exact Or.inr (by omega)
    have hsz : w5.heap.size ≤ WF.heap.size := by have := HC6.out.2.2.1; have := HB7.out.size; omega
    have h45 : w4.heap.size ≤ w5.heap.size := HB5.out.size
    have h34 : w.heap.size + 3 ≤ w4.heap.size := by have := HT4.out.kept.size; have := HB3.out.2.1; omega
    have hLF : Live C w0 WF S4 p DD := ⟨C.frame HL5.out.dk fun k hk => by have := hSn k hk; exact hkF k (by omega) (by omega) (by omega), HL5.out.low, hbF⟩
    have hRF : RD WF (Av WF (fun k => S4 k ∨ Z k)) (.slice A5 n5 c5) (.slice A6 n6 c6) DD := by
      refine (HRD5.out.kept fun k hk hlt => ?_).mono fun k hk => ?_
      · rcases hk with hk | hk
        · have hz := hk.2
          exact hkF k hlt (fun e => hz (Or.inr (Or.inr (by omega)))) (fun e => hz (Or.inr (Or.inr (by omega))))
        · exact hkF k hlt (by omega) (by omega)
      · rcases hk with hk | hk
        · exact ⟨by have := hk.1; omega, fun hs => hs.elim (fun h => hk.2 (Or.inl h)) (fun h => hk.2 (Or.inr (Or.inl h)))⟩
        · exact ⟨by omega, fun hs => by rcases hs with hs | hs; exact (by have := (hSn k hs).1; omega); exact (by have := HZ.out k hs; omega)⟩
    have hTF : Turn S S4 w WF := ⟨⟨hbF.os.trans (by rw [← HB3.out.1.os, HL.out.below.os]), hbF.tape.trans (by rw [← HB3.out.1.tape, HL.out.below.tape]), hbF.output.trans (by rw [← HB3.out.1.output, HL.out.below.output]), by have := hT.kept.size; omega, fun k hk hn => (hkF k (by have := hT.kept.size; omega) (by omega) (by omega)).trans (hT.kept.block k hk hn)⟩, hT.new⟩
    have HF := Lib.hid (And.intro hWF (And.intro hLF (And.intro hRF hTF)))
    clear hWF hsF hkF hw07 hbF hT hSn hsz h45 h34 hLF hRF hTF
    refine bodyPost_ret (v := .tuple #[.agg #[.slice A5 n5 c5, .slice A6 n6 c6, .int .i64 DD.armed, .bool DD.off], .bool true]) ?_ rfl ⟨S4, .slice A5 n5 c5, .slice A6 n6 c6, by rw [HDD.out], ?_, ?_, ?_⟩
    · simp only [results, hres]
      go_simp
    · rw [HDD.out, ← HF.out.1]; exact HF.out.2.1
    · rw [HDD.out, ← HF.out.1]; exact HF.out.2.2.1
    · rw [← HF.out.1]; exact HF.out.2.2.2
  · go_enter Tryd.func19, Tryd.ntmps19
    go_upto_region 10 with fail
    rw [← hW1, ← hW2, ← hW3]
    clear hW1 hW2 hW3
    obtain ⟨Y, hY⟩ : ∃ Y, Y = readB d a.at_ a.n := ⟨_, rfl⟩
    obtain ⟨e, he⟩ : ∃ e, e = badE d a.at_ a.n := ⟨_, rfl⟩
    have hcr := C.cRead W3 S p d a.at_ a.n HL.out.dk HOK.out.2.1 HOK.out.2.2.1
    rw [← hY, ← he] at hcr
    have HCR := Lib.hid hcr
    have HYE := Lib.hid (And.intro hY he)
    clear hcr hY he
    go_upto_region 11 with (go_at_call 6; go_must (refine HCR.out.mono ?_; rintro y w4 ⟨v4, rfl, hs4, hb4⟩; obtain ⟨A4, n4, c4, rfl⟩ := hs4.form; have HS4 := Lib.hid hs4; have HT4 := Lib.hid (Turn.of_below (S := S) hb4); have HB4 := Lib.hid hb4; clear hs4 hb4))
    clear q0 q1 q2 q3 a0 a1 a2 a3 a4
    obtain ⟨q0, -⟩ := (HCB.out S w4 HT4.out).1 0 _ rfl
    obtain ⟨q1, -⟩ := (HCB.out S w4 HT4.out).1 1 _ rfl
    obtain ⟨q2, -⟩ := (HCB.out S w4 HT4.out).1 2 _ rfl
    obtain ⟨q3, -⟩ := (HCB.out S w4 HT4.out).1 3 _ rfl
    have a1 := (HCB.out S w4 HT4.out).2.1 1 _ rfl
    have a2 := (HCB.out S w4 HT4.out).2.1 2 _ rfl
    have HZ4 := Lib.hid (HR.out.turn (HT4.out.beside (T := fun k => Z k ∨ (w.heap.size ≤ k ∧ k < w.heap.size + 3))))
    have href := RefRead_any _ _ d a.at_ a.n w4 _ HZ4.out HOK.out.2.1 HOK.out.2.2.1
    unfold rdv at href
    rw [← HYE.out.1, ← HYE.out.2] at href
    have HREF := Lib.hid href
    clear href
    go_upto_region 12 with (go_at_call 20; go_must (refine HREF.out.mono ?_; rintro y w5 ⟨v5, rfl, hs5, hb5⟩; obtain ⟨A5, n5, c5, rfl⟩ := hs5.form; have HS5 := Lib.hid hs5; have HB5 := Lib.hid hb5; have HT5 := Lib.hid (HT4.out.trans (Turn.of_below hb5)); clear hs5 hb5))
    have hbx := (HCB.out S w5 HT5.out)
    have h53 : w.heap.size + 3 ≤ w4.heap.size := by have := HB4.out.size; have := HB3.out.2.1; omega
    have hz4 : SlT w5 (fun k => k ≠ w.heap.size + 2) (.slice A4 n4 c4) Y := (HS4.out.kept fun k _ hlt => HB5.out.block k hlt).mono fun k hk => by have := HB3.out.2.1; have := hk.1; omega
    have hz5 : SlT w5 (fun k => k ≠ w.heap.size + 2) (.slice A5 n5 c5) Y := HS5.out.mono fun k hk => by have := hk.1; omega
    have hnum := num_ev e w5.drew (HS.out.below HG.out ((HL.out.below.trans ((HB4.out.trans (HB5.out.mono HB4.out.size)).mono (by have := HW.out; have := HB3.out.2.1; omega))).drew))
    have HNUM := Lib.hid hnum
    have HBX := Lib.hid (And.intro hbx (And.intro h53 (And.intro hz4 hz5)))
    have hd : (w5.drew.cell? ⟨w.heap.size, 0, none⟩ = some (.slice AB nB cB) ∧ w5.drew.cell? ⟨w.heap.size, 1, none⟩ = some (.slice AL nL cL) ∧ w5.drew.cell? ⟨w.heap.size, 2, none⟩ = some (.int .i64 d.armed) ∧ w5.drew.cell? ⟨w.heap.size, 3, none⟩ = some (.bool d.off)) ∧ SlT w5.drew (fun k => k ≠ w.heap.size + 2) (.slice A4 n4 c4) Y ∧ SlT w5.drew (fun k => k ≠ w.heap.size + 2) (.slice A5 n5 c5) Y := by
      simp only [World.cell?_drew]
      exact ⟨⟨(hbx.1 0 _ rfl).1, (hbx.1 1 _ rfl).1, (hbx.1 2 _ rfl).1, (hbx.1 3 _ rfl).1⟩, hz4, hz5⟩
    clear q0 q1 q2 q3 a1 a2 hbx h53 hz4 hz5 hnum
    go_wp2_with fail
    refine wp_region_held_drew (S := fun W => (W.cell? ⟨w.heap.size, 0, none⟩ = some (.slice AB nB cB) ∧ W.cell? ⟨w.heap.size, 1, none⟩ = some (.slice AL nL cL) ∧ W.cell? ⟨w.heap.size, 2, none⟩ = some (.int .i64 d.armed) ∧ W.cell? ⟨w.heap.size, 3, none⟩ = some (.bool d.off)) ∧ SlT W (fun k => k ≠ w.heap.size + 2) (.slice A4 n4 c4) Y ∧ SlT W (fun k => k ≠ w.heap.size + 2) (.slice A5 n5 c5) Y) (by kernel_rfl) hd (fun hHeld => ?_)
    clear hd
    refine wpAnyH_take (i := 0) (oi := { dst := Option.some 64, op := Op.load 41 (Operand.tmp 4), type := 41, pos := "law.go:61", after := #[], guard := Option.none }) (v := .agg #[.slice AB nB cB, .slice AL nL cL, .int .i64 d.armed, .bool d.off]) rfl (by kernel_rfl) (by kernel_rfl) (by kernel_rfl) (fun _ _ _ h => h) (Or.inl ⟨by rfl, ?_⟩) hHeld ?_
    · intro W hSw
      obtain ⟨⟨q0, q1, q2, q3⟩, z4, z5⟩ := hSw; have y4 := conv_bytes z4.sl; have y5 := conv_bytes z5.sl; clear z4 z5
      go_simp
    simp only [Act.put, List.setIfInBounds_toArray, List.set_cons_zero, List.set_cons_succ]
    refine wpAnyH_take (i := 1) (oi := { dst := Option.some 65, op := Op.move (Operand.tmp 10), type := 24, pos := "law.go:61", after := #[], guard := Option.none }) (v := .slice A4 n4 c4) rfl (by kernel_rfl) (by kernel_rfl) (by kernel_rfl) (fun _ _ _ h => h) (Or.inl ⟨by rfl, ?_⟩) hHeld ?_
    · intro W hSw
      obtain ⟨⟨q0, q1, q2, q3⟩, z4, z5⟩ := hSw; have y4 := conv_bytes z4.sl; have y5 := conv_bytes z5.sl; clear z4 z5
      go_simp
    simp only [Act.put, List.setIfInBounds_toArray, List.set_cons_zero, List.set_cons_succ]
    refine wpAnyH_take (i := 2) (oi := { dst := Option.some 66, op := Op.convert 24 9 (Operand.tmp 65), type := 9, pos := "law.go:61", after := #[{ on := 1, ground := Ground.data }], guard := Option.none }) (v := .string ⟨Y.toArray⟩) rfl (by kernel_rfl) (by kernel_rfl) (by kernel_rfl) (fun _ _ _ h => h) (Or.inl ⟨by rfl, ?_⟩) hHeld ?_
    · intro W hSw
      obtain ⟨⟨q0, q1, q2, q3⟩, z4, z5⟩ := hSw; have y4 := conv_bytes z4.sl; have y5 := conv_bytes z5.sl; clear z4 z5
      go_simp
    simp only [Act.put, List.setIfInBounds_toArray, List.set_cons_zero, List.set_cons_succ]
    refine wpAnyH_take (i := 3) (oi := { dst := Option.some 67, op := Op.move (Operand.tmp 12), type := 24, pos := "law.go:61", after := #[], guard := Option.none }) (v := .slice A5 n5 c5) rfl (by kernel_rfl) (by kernel_rfl) (by kernel_rfl) (fun _ _ _ h => h) (Or.inl ⟨by rfl, ?_⟩) hHeld ?_
    · intro W hSw
      obtain ⟨⟨q0, q1, q2, q3⟩, z4, z5⟩ := hSw; have y4 := conv_bytes z4.sl; have y5 := conv_bytes z5.sl; clear z4 z5
      go_simp
    simp only [Act.put, List.setIfInBounds_toArray, List.set_cons_zero, List.set_cons_succ]
    refine wpAnyH_take (i := 4) (oi := { dst := Option.some 68, op := Op.convert 24 9 (Operand.tmp 67), type := 9, pos := "law.go:61", after := #[{ on := 3, ground := Ground.data }], guard := Option.none }) (v := .string ⟨Y.toArray⟩) rfl (by kernel_rfl) (by kernel_rfl) (by kernel_rfl) (fun _ _ _ h => h) (Or.inl ⟨by rfl, ?_⟩) hHeld ?_
    · intro W hSw
      obtain ⟨⟨q0, q1, q2, q3⟩, z4, z5⟩ := hSw; have y4 := conv_bytes z4.sl; have y5 := conv_bytes z5.sl; clear z4 z5
      go_simp
    simp only [Act.put, List.setIfInBounds_toArray, List.set_cons_zero, List.set_cons_succ]
    refine wpAnyH_take (i := 5) (oi := { dst := Option.some 69, op := Op.binOp BinOp.eql 9 (Operand.tmp 66) (Operand.tmp 68) 9, type := 4, pos := "law.go:61", after := #[{ on := 2, ground := Ground.data }, { on := 4, ground := Ground.data }], guard := Option.none }) (v := .bool true) rfl (by kernel_rfl) (by kernel_rfl) (by kernel_rfl) (fun _ _ _ h => h) (Or.inl ⟨by rfl, ?_⟩) hHeld ?_
    · intro W hSw
      obtain ⟨⟨q0, q1, q2, q3⟩, z4, z5⟩ := hSw; have y4 := conv_bytes z4.sl; have y5 := conv_bytes z5.sl; clear z4 z5
      go_simp
    simp only [Act.put, List.setIfInBounds_toArray, List.set_cons_zero, List.set_cons_succ]
    refine wpAnyH_take (i := 6) (oi := { dst := Option.some 70, op := Op.move (Operand.tmp 69), type := 4, pos := "law.go:61", after := #[{ on := 5, ground := Ground.data }], guard := Option.none }) (v := .bool true) rfl (by kernel_rfl) (by kernel_rfl) (by kernel_rfl) (fun _ _ _ h => h) (Or.inl ⟨by rfl, ?_⟩) hHeld ?_
    · intro W hSw
      obtain ⟨⟨q0, q1, q2, q3⟩, z4, z5⟩ := hSw; have y4 := conv_bytes z4.sl; have y5 := conv_bytes z5.sl; clear z4 z5
      go_simp
    simp only [Act.put, List.setIfInBounds_toArray, List.set_cons_zero, List.set_cons_succ]
    refine wpAnyH_take (i := 7) (oi := { dst := Option.some 71, op := Op.move (Operand.tmp 11), type := 26, pos := "law.go:61", after := #[{ on := 6, ground := Ground.guard }], guard := Option.some (6, true) }) (v := er e) rfl (by kernel_rfl) (by kernel_rfl) (by kernel_rfl) (fun _ _ _ h => h) (Or.inl ⟨by rfl, ?_⟩) hHeld ?_
    · intro W hSw
      obtain ⟨⟨q0, q1, q2, q3⟩, z4, z5⟩ := hSw; have y4 := conv_bytes z4.sl; have y5 := conv_bytes z5.sl; clear z4 z5
      go_simp
    simp only [Act.put, List.setIfInBounds_toArray, List.set_cons_zero, List.set_cons_succ]
    refine wpAnyH_take (i := 9) (oi := { dst := Option.some 73, op := Op.move (Operand.tmp 13), type := 3, pos := "law.go:61", after := #[{ on := 6, ground := Ground.guard }, { on := 12, ground := Ground.gcOnly Departure.lateStores }], guard := Option.some (6, true) }) (v := .int .i64 (e : Int)) rfl (by kernel_rfl) (by kernel_rfl) (by kernel_rfl) (fun _ _ _ h => h) (Or.inl ⟨by rfl, ?_⟩) hHeld ?_
    · intro W hSw
      go_simp
    simp only [Act.put, List.setIfInBounds_toArray, List.set_cons_zero, List.set_cons_succ]
    refine wpAnyH_ready (rs := [8]) (by kernel_rfl) (by simp) ?_
    refine AllReadyH.cons (o := { dst := Option.some 72, op := Op.call { callee := Callee.value (Operand.func 8), args := #[Operand.tmp 71], argTypes := #[26] }, type := 3, pos := "law.go:61", after := #[{ on := 7, ground := Ground.data }, { on := 6, ground := Ground.chain }, { on := 6, ground := Ground.guard }], guard := Option.some (6, true) }) rfl (fun K hK => ?_) AllReadyH.nil
    go_simp
    refine HNUM.out.mono ?_
    rintro y w7 ⟨rfl, hb7⟩
    have h7 : Below w5.heap.size w5 w7 := (Below.refl _ _).drew.trans hb7
    have hT7 : Turn S S W3 w7 := HT5.out.trans (Turn.of_below h7)
    have hbx := HCB.out S w7 hT7
    have hz4 : SlT w7 (fun k => k ≠ w.heap.size + 2) (.slice A4 n4 c4) Y := HBX.out.2.2.1.kept fun k _ hlt => h7.block k hlt
    have hz5 : SlT w7 (fun k => k ≠ w.heap.size + 2) (.slice A5 n5 c5) Y := HBX.out.2.2.2.kept fun k _ hlt => h7.block k hlt
    have HD7 := Lib.hid (And.intro hbx (And.intro hz4 hz5))
    obtain ⟨r0, f0⟩ := hbx.2.2 0 _ rfl
    obtain ⟨r1, f1⟩ := hbx.2.2 1 _ rfl
    obtain ⟨r2, f2⟩ := hbx.2.2 2 _ rfl
    obtain ⟨r3, f3⟩ := hbx.2.2 3 _ rfl
    have HB7 := Lib.hid (And.intro h7 hT7)
    clear h7 hT7 hbx hz4 hz5 hb7 hHeld
    refine hK.out _ _ ⟨⟨(HD7.out.1.1 0 _ rfl).1, (HD7.out.1.1 1 _ rfl).1, (HD7.out.1.1 2 _ rfl).1, (HD7.out.1.1 3 _ rfl).1⟩, HD7.out.2⟩ (fun hHeld => ?_)
    clear hK K
    refine wpAnyH_take (i := 10) (oi := { dst := Option.some 74, op := Op.binOp BinOp.eql 3 (Operand.tmp 72) (Operand.tmp 73) 3, type := 4, pos := "law.go:61", after := #[{ on := 8, ground := Ground.data }, { on := 9, ground := Ground.data }, { on := 6, ground := Ground.guard }, { on := 12, ground := Ground.gcOnly Departure.lateStores }], guard := Option.some (6, true) }) (v := .bool true) rfl (by kernel_rfl) (by kernel_rfl) (by kernel_rfl) (fun _ _ _ h => h) (Or.inl ⟨by rfl, ?_⟩) hHeld ?_
    · intro W hSw
      go_simp
    simp only [Act.put, List.setIfInBounds_toArray, List.set_cons_zero, List.set_cons_succ]
    refine wpAnyH_take (i := 11) (oi := { dst := Option.some 75, op := Op.pick (Operand.tmp 70) (Operand.tmp 74) (Operand.const (Value.bool false)), type := 4, pos := "law.go:61", after := #[{ on := 6, ground := Ground.data }, { on := 10, ground := Ground.data }, { on := 12, ground := Ground.gcOnly Departure.lateStores }], guard := Option.none }) (v := .bool true) rfl (by kernel_rfl) (by kernel_rfl) (by kernel_rfl) (fun _ _ _ h => h) (Or.inl ⟨by rfl, ?_⟩) hHeld ?_
    · intro W hSw
      go_simp
    simp only [Act.put, List.setIfInBounds_toArray, List.set_cons_zero, List.set_cons_succ]
    refine wpAnyH_ready (rs := [12]) (by kernel_rfl) (by simp) ?_
    refine AllReadyH.cons (o := { dst := Option.none, op := Op.store 41 (Operand.tmp 6) (Operand.tmp 64), type := 0, pos := "law.go:61", after := #[{ on := 0, ground := Ground.data }, { on := 8, ground := Ground.chain }, { on := 0, ground := Ground.phase }, { on := 1, ground := Ground.textOnly Departure.lateStores }, { on := 2, ground := Ground.textOnly Departure.lateStores }, { on := 3, ground := Ground.textOnly Departure.lateStores }, { on := 4, ground := Ground.textOnly Departure.lateStores }, { on := 5, ground := Ground.textOnly Departure.lateStores }, { on := 6, ground := Ground.textOnly Departure.lateStores }, { on := 7, ground := Ground.textOnly Departure.lateStores }, { on := 8, ground := Ground.textOnly Departure.lateStoresUnsure }, { on := 9, ground := Ground.textOnly Departure.lateStores }, { on := 10, ground := Ground.textOnly Departure.lateStores }, { on := 11, ground := Ground.textOnly Departure.lateStores }], guard := Option.none }) rfl (fun K hK => ?_) AllReadyH.nil
    go_simp
    obtain ⟨WF, hWF⟩ : ∃ WF, WF = (((w7.setCell ⟨w.heap.size + 2, 0, none⟩ (.slice AB nB cB)).setCell ⟨w.heap.size + 2, 1, none⟩ (.slice AL nL cL)).setCell ⟨w.heap.size + 2, 2, none⟩ (.int .i64 d.armed)).setCell ⟨w.heap.size + 2, 3, none⟩ (.bool d.off) := ⟨_, rfl⟩
    have hkF : ∀ k, k ≠ w.heap.size + 2 → WF.heap[k]? = w7.heap[k]? := fun k hk => by rw [hWF]; exact set4_block _ _ _ _ _ _ k hk
    have hcF : ∀ j v, w7.cell? ⟨w.heap.size, j, none⟩ = some v → WF.cell? ⟨w.heap.size, j, none⟩ = some v := fun j v hj => (World.cell?_of_block (w := w7) (a := ⟨w.heap.size, j, none⟩) (hkF _ (by show w.heap.size ≠ _; omega))).trans hj
    have hz4 : SlT WF (fun k => k ≠ w.heap.size + 2) (.slice A4 n4 c4) Y := HD7.out.2.1.kept fun k hk _ => hkF k hk
    have hz5 : SlT WF (fun k => k ≠ w.heap.size + 2) (.slice A5 n5 c5) Y := HD7.out.2.2.kept fun k hk _ => hkF k hk
    have hFF : Lib.hid hWF = Lib.hid hWF := rfl
    clear hFF
    have hSF : (WF.cell? ⟨w.heap.size, 0, none⟩ = some (.slice AB nB cB) ∧ WF.cell? ⟨w.heap.size, 1, none⟩ = some (.slice AL nL cL) ∧ WF.cell? ⟨w.heap.size, 2, none⟩ = some (.int .i64 d.armed) ∧ WF.cell? ⟨w.heap.size, 3, none⟩ = some (.bool d.off)) ∧ SlT WF (fun k => k ≠ w.heap.size + 2) (.slice A4 n4 c4) Y ∧ SlT WF (fun k => k ≠ w.heap.size + 2) (.slice A5 n5 c5) Y :=
      ⟨⟨hcF 0 _ (HD7.out.1.1 0 _ rfl).1, hcF 1 _ (HD7.out.1.1 1 _ rfl).1, hcF 2 _ (HD7.out.1.1 2 _ rfl).1, hcF 3 _ (HD7.out.1.1 3 _ rfl).1⟩, hz4, hz5⟩
    have HWF := Lib.hid hWF
    have HKF := Lib.hid hkF
    have hsF : WF.heap.size = w7.heap.size := by rw [hWF]; simp [World.setCell]
    have HSF := Lib.hid hsF
    refine hK.out _ _ (by rw [← HWF.out]; exact hSF) (fun hHeld => ?_)
    clear hK K hcF hz4 hz5 hSF hkF hWF hsF
    refine wpAnyH_take (i := 13) (oi := { dst := Option.some 7, op := Op.assign (Operand.tmp 75), type := 4, pos := "law.go:61", after := #[{ on := 11, ground := Ground.data }, { on := 12, ground := Ground.chain }, { on := 0, ground := Ground.phase }, { on := 1, ground := Ground.phase }, { on := 2, ground := Ground.phase }, { on := 3, ground := Ground.phase }, { on := 4, ground := Ground.phase }, { on := 5, ground := Ground.phase }, { on := 6, ground := Ground.phase }, { on := 7, ground := Ground.phase }, { on := 8, ground := Ground.phase }, { on := 9, ground := Ground.phase }, { on := 10, ground := Ground.phase }, { on := 11, ground := Ground.phase }, { on := 12, ground := Ground.phase }], guard := Option.none }) (v := .bool true) rfl (by kernel_rfl) (by kernel_rfl) (by kernel_rfl) (fun _ _ _ h => h) (Or.inl ⟨by rfl, ?_⟩) hHeld ?_
    · intro W hSw
      go_simp
    simp only [Act.put, List.setIfInBounds_toArray, List.set_cons_zero, List.set_cons_succ]
    clear hHeld
    refine wpAnyH_done (by kernel_rfl) ?_ _
    go_wp2_with fail
    have hDD : actD d a = d := HACT.out
    have HDD := Lib.hid hDD
    clear hDD
    have hT : Turn S S w w7 := (Turn.of_below HB3.out.1).trans HB7.out.2
    have hw37 : w.heap.size + 3 ≤ w7.heap.size := by have := HB7.out.2.kept.size; have := HB3.out.2.1; omega
    have hbF : Below w0.heap.size w0 WF := by
      rw [HWF.out]
      exact set4_below ((HL.out.more HB4.out).below.trans ((HB5.out.trans (HB7.out.1.mono HB5.out.size)).mono (by have := HB4.out.size; have := HL.out.size; omega))) (by have := HW.out; omega) _ _ _ _
    have hLF : Live C w0 WF S p d := ⟨C.frame HL.out.dk fun k hk => by
      have h1 := HB3.out.2.2 k hk
      rw [HKF.out k (by omega)]
      have h2 := (HB4.out.trans (HB5.out.mono HB4.out.size)).trans (HB7.out.1.mono (by have := HB4.out.size; have := HB5.out.size; omega))
      exact h2.block k (by have := HB3.out.2.1; omega), HL.out.low, hbF⟩
    have hZ7 : RD w7 (Av w7 (fun k => S k ∨ (Z k ∨ (w.heap.size ≤ k ∧ k < w.heap.size + 3)))) (.slice AB nB cB) (.slice AL nL cL) d := HR.out.turn (HB7.out.2.beside (T := fun k => Z k ∨ (w.heap.size ≤ k ∧ k < w.heap.size + 3)))
    have hRF : RD WF (Av WF (fun k => S k ∨ Z k)) (.slice AB nB cB) (.slice AL nL cL) d := (hZ7.kept fun k hk _ => HKF.out k (fun e => hk.2 (Or.inr (Or.inr (by omega))))).mono fun k hk => ⟨by have := hk.1; have := HSF.out; omega, fun hs => hs.elim (fun h => hk.2 (Or.inl h)) (fun h => hk.2 (Or.inr (Or.inl h)))⟩
    have hTF : Turn S S w WF := ⟨⟨hbF.os.trans (by rw [← HB3.out.1.os, HL.out.below.os]), hbF.tape.trans (by rw [← HB3.out.1.tape, HL.out.below.tape]), hbF.output.trans (by rw [← HB3.out.1.output, HL.out.below.output]), by have := HSF.out; omega, fun k hk hn => (HKF.out k (by omega)).trans (hT.kept.block k hk hn)⟩, hT.new⟩
    have HF := Lib.hid (And.intro hLF (And.intro hRF hTF))
    clear hT hw37 hbF hLF hZ7 hRF hTF
    refine bodyPost_ret (v := .tuple #[.agg #[.slice AB nB cB, .slice AL nL cL, .int .i64 d.armed, .bool d.off], .bool true]) ?_ rfl ⟨S, .slice AB nB cB, .slice AL nL cL, by rw [HDD.out], ?_, ?_, ?_⟩
    · simp only [results, hres]
      go_simp
    · rw [HDD.out, ← HWF.out]; exact HF.out.1
    · rw [HDD.out, ← HWF.out]; exact HF.out.2.1
    · rw [← HWF.out]; exact HF.out.2.2
  · go_enter Tryd.func19, Tryd.ntmps19
    go_upto_region 14 with fail
    rw [← hW1, ← hW2, ← hW3]
    clear hW1 hW2 hW3
    go_upto_region 15 with (go_at_call 11; go_must (refine (live_arm E HL.out a.n HOK.out.2.2.1).mono ?_; rintro y w4 ⟨S4, rfl, h4, ht4⟩; have HL4 := Lib.hid h4; have HT4 := Lib.hid ht4; clear h4 ht4))
    clear q0 q1 q2 q3 a0 a1 a2 a3 a4
    obtain ⟨q0, -⟩ := (HCB.out S4 w4 HT4.out).1 0 _ rfl
    obtain ⟨q1, -⟩ := (HCB.out S4 w4 HT4.out).1 1 _ rfl
    obtain ⟨q2, -⟩ := (HCB.out S4 w4 HT4.out).1 2 _ rfl
    obtain ⟨q3, -⟩ := (HCB.out S4 w4 HT4.out).1 3 _ rfl
    have a0 := (HCB.out S4 w4 HT4.out).2.1 0 _ rfl
    have a1 := (HCB.out S4 w4 HT4.out).2.1 1 _ rfl
    have a2 := (HCB.out S4 w4 HT4.out).2.1 2 _ rfl
    have a3 := (HCB.out S4 w4 HT4.out).2.1 3 _ rfl
    have a4 := (HCB.out S4 w4 HT4.out).2.1 4 _ rfl
    have HZ4 := Lib.hid (HR.out.turn (HT4.out.beside (T := fun k => Z k ∨ (w.heap.size ≤ k ∧ k < w.heap.size + 3))))
    have href := RefArm_any AB AL nB cB nL cL d a.n w4
    unfold rdv at href
    have HREF := Lib.hid href
    clear href
    go_upto_region 19 with (go_at_call 29; go_must (refine HREF.out.mono ?_; rintro y w5 ⟨rfl, hb5⟩; have HT5 := Lib.hid (HT4.out.trans (Turn.of_below hb5)); have hrd5 : RD w5 (Tn (Av w4 (fun k => S4 k ∨ (Z k ∨ (w.heap.size ≤ k ∧ k < w.heap.size + 3)))) w4 w5) (.slice AB nB cB) (.slice AL nL cL) (armD d a.n) := (HZ4.out.alike hb5 (armD_same d a.n).1 (armD_same d a.n).2 (armD_ok HZ4.out.ok a.n) (armD_arm HZ4.out.arm HOK.out.2.2.1)).mono (fun k hk => Or.inl hk); obtain ⟨p0, g0⟩ := (HCB.out S4 w5 HT5.out).1 0 _ rfl; obtain ⟨p1, g1⟩ := (HCB.out S4 w5 HT5.out).1 1 _ rfl; obtain ⟨p2, g2⟩ := (HCB.out S4 w5 HT5.out).1 2 _ rfl; obtain ⟨p3, g3⟩ := (HCB.out S4 w5 HT5.out).1 3 _ rfl; have HRD5 := Lib.hid hrd5; have HB5 := Lib.hid hb5; clear hrd5 hb5))
    have HDD : Hid (actD d a = (armD d a.n)) := Lib.hid (by rw [HACT.out]; rfl)
    have HL5 := Lib.hid (HL4.out.more HB5.out)
    have HNUM : Hid (∀ W, Below w0.heap.size w0 W → Calls Tryd.prog 8 #[er (armE a.n)] W fun x w' => x = .returned (.int .i64 (((armE a.n) : Nat) : Int)) ∧ Below W.heap.size W w') := Lib.hid fun W hW => num_ev _ W (HS.out.below HG.out hW)
    generalize (armD d a.n) = DD at HRD5 HL5 HDD
    obtain ⟨W6, hW6⟩ : ∃ W6, W6 = (((w5.setCell ⟨w.heap.size, 0, none⟩ (.slice AB nB cB)).setCell ⟨w.heap.size, 1, none⟩ (.slice AL nL cL)).setCell ⟨w.heap.size, 2, none⟩ (.int .i64 DD.armed)).setCell ⟨w.heap.size, 3, none⟩ (.bool DD.off) := ⟨_, rfl⟩
    rw [← hW6]
    have hc6 : ∀ j v, (#[.slice AB nB cB, .slice AL nL cL, .int .i64 DD.armed, .bool DD.off] : Array Value)[j]? = some v → W6.cell? ⟨w.heap.size, j, none⟩ = some v := by rw [hW6]; exact set4_cell _ _ _ _ p0 p1 p2 p3
    have hk6 : ∀ k, k ≠ w.heap.size → W6.heap[k]? = w5.heap[k]? := fun k hk => by rw [hW6]; exact set4_block _ _ _ _ _ _ k hk
    have hs6 : W6.heap.size = w5.heap.size := by rw [hW6]; simp [World.setCell]
    have hb6 : Below w0.heap.size w0 W6 := by rw [hW6]; exact set4_below HL5.out.below HW.out _ _ _ _
    have h53 : w.heap.size + 3 ≤ w5.heap.size := by have := HT5.out.kept.size; have := HB3.out.2.1; omega
    have hr6 : ∀ j v, (#[.slice none 0 0, .slice none 0 0, .int .i64 0, .bool false] : Array Value)[j]? = some v → ∀ W, Below W6.heap.size W6 W → W.cell? ⟨w.heap.size + 2, j, none⟩ = some v ∧ W.frozen? ⟨w.heap.size + 2, j, none⟩ = false := by
      intro j v hj W hW
      rw [hW.cell (p := ⟨w.heap.size + 2, j, none⟩) (by show w.heap.size + 2 < _; omega), hW.frozen (p := ⟨w.heap.size + 2, j, none⟩) (by show w.heap.size + 2 < _; omega), World.cell?_of_block (w := w5) (a := ⟨w.heap.size + 2, j, none⟩) (hk6 _ (by show w.heap.size + 2 ≠ _; omega)), World.frozen?_of_block (w := w5) (a := ⟨w.heap.size + 2, j, none⟩) (hk6 _ (by show w.heap.size + 2 ≠ _; omega))]
      exact (HCB.out S4 w5 HT5.out).2.2 j v hj
    have hn6 := HNUM.out W6.drew hb6.drew
    have hd : W6.drew.cell? ⟨w.heap.size, 0, none⟩ = some (.slice AB nB cB) ∧ W6.drew.cell? ⟨w.heap.size, 1, none⟩ = some (.slice AL nL cL) ∧ W6.drew.cell? ⟨w.heap.size, 2, none⟩ = some (.int .i64 DD.armed) ∧ W6.drew.cell? ⟨w.heap.size, 3, none⟩ = some (.bool DD.off) := by
      simp only [World.cell?_drew]
      exact ⟨hc6 0 _ rfl, hc6 1 _ rfl, hc6 2 _ rfl, hc6 3 _ rfl⟩
    have HN6 := Lib.hid hn6
    have HC6 := Lib.hid (And.intro hc6 (And.intro hk6 (And.intro hs6 (And.intro h53 hr6))))
    have HB6 := Lib.hid hb6
    clear p0 p1 p2 p3 g0 g1 g2 g3 q0 q1 q2 q3 a0 a1 a2 a3 a4 hc6 hk6 hs6 h53 hr6 hb6 hn6 hW6
    go_wp2_with fail
    refine wp_region_held_drew (S := fun W => W.cell? ⟨w.heap.size, 0, none⟩ = some (.slice AB nB cB) ∧ W.cell? ⟨w.heap.size, 1, none⟩ = some (.slice AL nL cL) ∧ W.cell? ⟨w.heap.size, 2, none⟩ = some (.int .i64 DD.armed) ∧ W.cell? ⟨w.heap.size, 3, none⟩ = some (.bool DD.off)) (by kernel_rfl) hd (fun hHeld => ?_)
    clear hd
    refine wpAnyH_take (i := 0) (oi := { dst := Option.some 100, op := Op.load 41 (Operand.tmp 4), type := 41, pos := "law.go:72", after := #[], guard := Option.none }) (v := .agg #[.slice AB nB cB, .slice AL nL cL, .int .i64 DD.armed, .bool DD.off]) rfl (by kernel_rfl) (by kernel_rfl) (by kernel_rfl) (fun _ _ _ h => h) (Or.inl ⟨by rfl, ?_⟩) hHeld ?_
    · intro W hSw
      obtain ⟨q0, q1, q2, q3⟩ := hSw
      go_simp
    simp only [Act.put, List.setIfInBounds_toArray, List.set_cons_zero, List.set_cons_succ]
    refine wpAnyH_take (i := 1) (oi := { dst := Option.some 101, op := Op.move (Operand.tmp 8), type := 26, pos := "law.go:72", after := #[], guard := Option.none }) (v := er (armE a.n)) rfl (by kernel_rfl) (by kernel_rfl) (by kernel_rfl) (fun _ _ _ h => h) (Or.inl ⟨by rfl, ?_⟩) hHeld ?_
    · intro W hSw
      obtain ⟨q0, q1, q2, q3⟩ := hSw
      go_simp
    simp only [Act.put, List.setIfInBounds_toArray, List.set_cons_zero, List.set_cons_succ]
    refine wpAnyH_take (i := 3) (oi := { dst := Option.some 103, op := Op.move (Operand.tmp 9), type := 3, pos := "law.go:72", after := #[{ on := 5, ground := Ground.gcOnly Departure.lateStores }], guard := Option.none }) (v := .int .i64 ((armE a.n) : Int)) rfl (by kernel_rfl) (by kernel_rfl) (by kernel_rfl) (fun _ _ _ h => h) (Or.inl ⟨by rfl, ?_⟩) hHeld ?_
    · intro W hSw
      go_simp
    simp only [Act.put, List.setIfInBounds_toArray, List.set_cons_zero, List.set_cons_succ]
    refine wpAnyH_ready (rs := [2]) (by kernel_rfl) (by simp) ?_
    refine AllReadyH.cons (o := { dst := Option.some 102, op := Op.call { callee := Callee.value (Operand.func 8), args := #[Operand.tmp 101], argTypes := #[26] }, type := 3, pos := "law.go:72", after := #[{ on := 1, ground := Ground.data }], guard := Option.none }) rfl (fun K hK => ?_) AllReadyH.nil
    go_simp
    refine HN6.out.mono ?_
    rintro y w7 ⟨rfl, hb7⟩
    have h7 : Below W6.heap.size W6 w7 := (Below.refl _ _).drew.trans hb7
    have hlt : w.heap.size < W6.heap.size := by have := HC6.out.2.2.1; have := HC6.out.2.2.2.1; omega
    have hq7 : ∀ j, w7.cell? ⟨w.heap.size, j, none⟩ = W6.cell? ⟨w.heap.size, j, none⟩ := fun j => h7.cell (p := ⟨w.heap.size, j, none⟩) hlt
    have hd7 : w7.cell? ⟨w.heap.size, 0, none⟩ = some (.slice AB nB cB) ∧ w7.cell? ⟨w.heap.size, 1, none⟩ = some (.slice AL nL cL) ∧ w7.cell? ⟨w.heap.size, 2, none⟩ = some (.int .i64 DD.armed) ∧ w7.cell? ⟨w.heap.size, 3, none⟩ = some (.bool DD.off) :=
      ⟨(hq7 0).trans (HC6.out.1 0 _ rfl), (hq7 1).trans (HC6.out.1 1 _ rfl), (hq7 2).trans (HC6.out.1 2 _ rfl), (hq7 3).trans (HC6.out.1 3 _ rfl)⟩
    obtain ⟨r0, f0⟩ := HC6.out.2.2.2.2 0 _ rfl w7 h7
    obtain ⟨r1, f1⟩ := HC6.out.2.2.2.2 1 _ rfl w7 h7
    obtain ⟨r2, f2⟩ := HC6.out.2.2.2.2 2 _ rfl w7 h7
    obtain ⟨r3, f3⟩ := HC6.out.2.2.2.2 3 _ rfl w7 h7
    have HB7 := Lib.hid h7
    have HD7 := Lib.hid hd7
    clear h7 hlt hq7 hb7 hHeld hd7
    refine hK.out _ _ HD7.out (fun hHeld => ?_)
    clear hK K
    refine wpAnyH_take (i := 4) (oi := { dst := Option.some 104, op := Op.binOp BinOp.eql 3 (Operand.tmp 102) (Operand.tmp 103) 3, type := 4, pos := "law.go:72", after := #[{ on := 2, ground := Ground.data }, { on := 3, ground := Ground.data }, { on := 5, ground := Ground.gcOnly Departure.lateStores }], guard := Option.none }) (v := .bool true) rfl (by kernel_rfl) (by kernel_rfl) (by kernel_rfl) (fun _ _ _ h => h) (Or.inl ⟨by rfl, ?_⟩) hHeld ?_
    · intro W hSw
      go_simp
    simp only [Act.put, List.setIfInBounds_toArray, List.set_cons_zero, List.set_cons_succ]
    refine wpAnyH_ready (rs := [5]) (by kernel_rfl) (by simp) ?_
    refine AllReadyH.cons (o := { dst := Option.none, op := Op.store 41 (Operand.tmp 6) (Operand.tmp 100), type := 0, pos := "law.go:72", after := #[{ on := 0, ground := Ground.data }, { on := 2, ground := Ground.chain }, { on := 0, ground := Ground.phase }, { on := 1, ground := Ground.textOnly Departure.lateStores }, { on := 2, ground := Ground.textOnly Departure.lateStoresUnsure }, { on := 3, ground := Ground.textOnly Departure.lateStores }, { on := 4, ground := Ground.textOnly Departure.lateStores }], guard := Option.none }) rfl (fun K hK => ?_) AllReadyH.nil
    go_simp
    have hd8 : ∀ j v, w7.cell? ⟨w.heap.size, j, none⟩ = some v → ((((w7.setCell ⟨w.heap.size + 2, 0, none⟩ (.slice AB nB cB)).setCell ⟨w.heap.size + 2, 1, none⟩ (.slice AL nL cL)).setCell ⟨w.heap.size + 2, 2, none⟩ (.int .i64 DD.armed)).setCell ⟨w.heap.size + 2, 3, none⟩ (.bool DD.off)).cell? ⟨w.heap.size, j, none⟩ = some v := fun j v hj => by
      rw [World.cell?_setCell_other _ _ _ _ (by simp), World.cell?_setCell_other _ _ _ _ (by simp), World.cell?_setCell_other _ _ _ _ (by simp), World.cell?_setCell_other _ _ _ _ (by simp)]
      exact hj
    refine hK.out _ _ ⟨hd8 0 _ HD7.out.1, hd8 1 _ HD7.out.2.1, hd8 2 _ HD7.out.2.2.1, hd8 3 _ HD7.out.2.2.2⟩ (fun hHeld => ?_)
    clear hK K hd8
    refine wpAnyH_take (i := 6) (oi := { dst := Option.some 7, op := Op.assign (Operand.tmp 104), type := 4, pos := "law.go:72", after := #[{ on := 4, ground := Ground.data }, { on := 5, ground := Ground.chain }, { on := 0, ground := Ground.phase }, { on := 1, ground := Ground.phase }, { on := 2, ground := Ground.phase }, { on := 3, ground := Ground.phase }, { on := 4, ground := Ground.phase }, { on := 5, ground := Ground.phase }], guard := Option.none }) (v := .bool true) rfl (by kernel_rfl) (by kernel_rfl) (by kernel_rfl) (fun _ _ _ h => h) (Or.inl ⟨by rfl, ?_⟩) hHeld ?_
    · intro W hSw
      go_simp
    simp only [Act.put, List.setIfInBounds_toArray, List.set_cons_zero, List.set_cons_succ]
    clear hHeld
    refine wpAnyH_done (by kernel_rfl) ?_ _
    go_wp2_with fail
    obtain ⟨WF, hWF⟩ : ∃ WF, WF = (((w7.setCell ⟨w.heap.size + 2, 0, none⟩ (.slice AB nB cB)).setCell ⟨w.heap.size + 2, 1, none⟩ (.slice AL nL cL)).setCell ⟨w.heap.size + 2, 2, none⟩ (.int .i64 DD.armed)).setCell ⟨w.heap.size + 2, 3, none⟩ (.bool DD.off) := ⟨_, rfl⟩
    have hsF : WF.heap.size = w7.heap.size := by rw [hWF]; simp [World.setCell]
    have hkF : ∀ k, k < w5.heap.size → k ≠ w.heap.size → k ≠ w.heap.size + 2 → WF.heap[k]? = w5.heap[k]? := fun k h1 h2 h3 => by
      rw [hWF, set4_block _ _ _ _ _ _ k h3, HB7.out.block k (by have := HC6.out.2.2.1; omega)]
      exact HC6.out.2.1 k h2
    have hw07 : w0.heap.size ≤ w.heap.size + 2 := by have := HW.out; omega
    have hbF : Below w0.heap.size w0 WF := by rw [hWF]; exact set4_below (HB6.out.trans (HB7.out.mono HB6.out.size)) hw07 _ _ _ _
    have hT : Turn S S4 w w5 := (Turn.of_below HB3.out.1).trans HT5.out
    have hSn : ∀ k, S4 k → k < w4.heap.size ∧ (k < w.heap.size ∨ w.heap.size + 3 ≤ k) := fun k hk => by
      refine ⟨C.foot HL4.out.dk k hk, ?_⟩
      rcases HT4.out.new k hk with h1 | h1
      · exact Or.inl (HB3.out.2.2 k h1)
      · have := HB3.out.2.1; exact Or.inr (by omega)
    have hsz : w5.heap.size ≤ WF.heap.size := by have := HC6.out.2.2.1; have := HB7.out.size; omega
    have h45 : w4.heap.size ≤ w5.heap.size := HB5.out.size
    have h34 : w.heap.size + 3 ≤ w4.heap.size := by have := HT4.out.kept.size; have := HB3.out.2.1; omega
    have hLF : Live C w0 WF S4 p DD := ⟨C.frame HL5.out.dk fun k hk => by have := hSn k hk; exact hkF k (by omega) (by omega) (by omega), HL5.out.low, hbF⟩
    have hRF : RD WF (Av WF (fun k => S4 k ∨ Z k)) (.slice AB nB cB) (.slice AL nL cL) DD := by
      refine (HRD5.out.kept fun k hk hlt => ?_).mono fun k hk => ?_
      · rcases hk with hk | hk
        · have hz := hk.2
          exact hkF k hlt (fun e => hz (Or.inr (Or.inr (by omega)))) (fun e => hz (Or.inr (Or.inr (by omega))))
        · exact hkF k hlt (by omega) (by omega)
      · rcases hk with hk | hk
        · exact ⟨by have := hk.1; omega, fun hs => hs.elim (fun h => hk.2 (Or.inl h)) (fun h => hk.2 (Or.inr (Or.inl h)))⟩
        · exact ⟨by omega, fun hs => by rcases hs with hs | hs; exact (by have := (hSn k hs).1; omega); exact (by have := HZ.out k hs; omega)⟩
    have hTF : Turn S S4 w WF := ⟨⟨hbF.os.trans (by rw [← HB3.out.1.os, HL.out.below.os]), hbF.tape.trans (by rw [← HB3.out.1.tape, HL.out.below.tape]), hbF.output.trans (by rw [← HB3.out.1.output, HL.out.below.output]), by have := hT.kept.size; omega, fun k hk hn => (hkF k (by have := hT.kept.size; omega) (by omega) (by omega)).trans (hT.kept.block k hk hn)⟩, hT.new⟩
    have HF := Lib.hid (And.intro hWF (And.intro hLF (And.intro hRF hTF)))
    clear hWF hsF hkF hw07 hbF hT hSn hsz h45 h34 hLF hRF hTF
    refine bodyPost_ret (v := .tuple #[.agg #[.slice AB nB cB, .slice AL nL cL, .int .i64 DD.armed, .bool DD.off], .bool true]) ?_ rfl ⟨S4, .slice AB nB cB, .slice AL nL cL, by rw [HDD.out], ?_, ?_, ?_⟩
    · simp only [results, hres]
      go_simp
    · rw [HDD.out, ← HF.out.1]; exact HF.out.2.1
    · rw [HDD.out, ← HF.out.1]; exact HF.out.2.2.1
    · rw [← HF.out.1]; exact HF.out.2.2.2
  · go_enter Tryd.func19, Tryd.ntmps19
    go_upto_region 17 with fail
    rw [← hW1, ← hW2, ← hW3]
    clear hW1 hW2 hW3
    go_upto_region 18 with (first | (go_at_call 7; go_must (refine (live_start (HL.out.more HB4.out) _ _ _ a.keep (by have := HFEW.out; omega) HI4.out HOK.out.2.2.2.1).mono ?_; rintro y w4 ⟨S4, rfl, h4, ht4⟩; have HL4 := Lib.hid h4; have HT4 := Lib.hid ((Turn.of_below HB4.out).trans ht4); clear h4 ht4)) | (go_at_call 30; go_must (refine (own_any _ _ _ a.keep _ _ HK.out HOK.out.2.2.2.2).mono ?_; rintro y w3 ⟨A3, c3, rfl, hi3, hb3⟩; have HB4 := Lib.hid hb3; have HI4 := Lib.hid (hi3.mono fun k hk => (⟨hk.2, fun hs => by have := HB3.out.2.2 k hs; have := HB3.out.2.1; omega⟩ : Av w3 S k)); clear hi3 hb3)))
    clear q0 q1 q2 q3 a0 a1 a2 a3 a4
    obtain ⟨q0, -⟩ := (HCB.out S4 w4 HT4.out).1 0 _ rfl
    obtain ⟨q1, -⟩ := (HCB.out S4 w4 HT4.out).1 1 _ rfl
    obtain ⟨q2, -⟩ := (HCB.out S4 w4 HT4.out).1 2 _ rfl
    obtain ⟨q3, -⟩ := (HCB.out S4 w4 HT4.out).1 3 _ rfl
    have a0 := (HCB.out S4 w4 HT4.out).2.1 0 _ rfl
    have a1 := (HCB.out S4 w4 HT4.out).2.1 1 _ rfl
    have a2 := (HCB.out S4 w4 HT4.out).2.1 2 _ rfl
    have a3 := (HCB.out S4 w4 HT4.out).2.1 3 _ rfl
    have a4 := (HCB.out S4 w4 HT4.out).2.1 4 _ rfl
    have HZ4 := Lib.hid (HR.out.turn (HT4.out.beside (T := fun k => Z k ∨ (w.heap.size ≤ k ∧ k < w.heap.size + 3))))
    have href := RefStart_any _ _ d Ak nk ck a.keep w4 _ HZ4.out (HKZ.out.turn (HT4.out.beside (T := fun k => Z k ∨ (w.heap.size ≤ k ∧ k < w.heap.size + 3))))
    unfold rdv at href
    have HREF := Lib.hid href
    clear href
    go_upto_region 19 with (go_at_call 31; go_must (refine HREF.out.mono ?_; rintro y w5 ⟨vB5, rfl, hrd5, hb5⟩; have HT5 := Lib.hid (HT4.out.trans (Turn.of_below hb5)); obtain ⟨A5, n5, c5, rfl⟩ := hrd5.b.form; obtain ⟨p0, g0⟩ := (HCB.out S4 w5 HT5.out).1 0 _ rfl; obtain ⟨p1, g1⟩ := (HCB.out S4 w5 HT5.out).1 1 _ rfl; obtain ⟨p2, g2⟩ := (HCB.out S4 w5 HT5.out).1 2 _ rfl; obtain ⟨p3, g3⟩ := (HCB.out S4 w5 HT5.out).1 3 _ rfl; have HRD5 := Lib.hid hrd5; have HB5 := Lib.hid hb5; clear hrd5 hb5))
    have HDD : Hid (actD d a = (startD d a.keep)) := Lib.hid (by rw [HACT.out]; rfl)
    have HL5 := Lib.hid (HL4.out.more HB5.out)
    have HNUM : Hid (∀ W, Below w0.heap.size w0 W → Calls Tryd.prog 8 #[er 0] W fun x w' => x = .returned (.int .i64 ((0 : Nat) : Int)) ∧ Below W.heap.size W w') := Lib.hid fun W hW => num_ev _ W (HS.out.below HG.out hW)
    rw [er_zero, show ((0 : Nat) : Int) = 0 from rfl] at HNUM
    generalize (startD d a.keep) = DD at HRD5 HL5 HDD
    obtain ⟨W6, hW6⟩ : ∃ W6, W6 = (((w5.setCell ⟨w.heap.size, 0, none⟩ (.slice A5 n5 c5)).setCell ⟨w.heap.size, 1, none⟩ (.slice none 0 0)).setCell ⟨w.heap.size, 2, none⟩ (.int .i64 DD.armed)).setCell ⟨w.heap.size, 3, none⟩ (.bool DD.off) := ⟨_, rfl⟩
    rw [← hW6]
    have hc6 : ∀ j v, (#[.slice A5 n5 c5, .slice none 0 0, .int .i64 DD.armed, .bool DD.off] : Array Value)[j]? = some v → W6.cell? ⟨w.heap.size, j, none⟩ = some v := by rw [hW6]; exact set4_cell _ _ _ _ p0 p1 p2 p3
    have hk6 : ∀ k, k ≠ w.heap.size → W6.heap[k]? = w5.heap[k]? := fun k hk => by rw [hW6]; exact set4_block _ _ _ _ _ _ k hk
    have hs6 : W6.heap.size = w5.heap.size := by rw [hW6]; simp [World.setCell]
    have hb6 : Below w0.heap.size w0 W6 := by rw [hW6]; exact set4_below HL5.out.below HW.out _ _ _ _
    have h53 : w.heap.size + 3 ≤ w5.heap.size := by have := HT5.out.kept.size; have := HB3.out.2.1; omega
    have hr6 : ∀ j v, (#[.slice none 0 0, .slice none 0 0, .int .i64 0, .bool false] : Array Value)[j]? = some v → ∀ W, Below W6.heap.size W6 W → W.cell? ⟨w.heap.size + 2, j, none⟩ = some v ∧ W.frozen? ⟨w.heap.size + 2, j, none⟩ = false := by
      intro j v hj W hW
      rw [hW.cell (p := ⟨w.heap.size + 2, j, none⟩) (by show w.heap.size + 2 < _; omega), hW.frozen (p := ⟨w.heap.size + 2, j, none⟩) (by show w.heap.size + 2 < _; omega), World.cell?_of_block (w := w5) (a := ⟨w.heap.size + 2, j, none⟩) (hk6 _ (by show w.heap.size + 2 ≠ _; omega)), World.frozen?_of_block (w := w5) (a := ⟨w.heap.size + 2, j, none⟩) (hk6 _ (by show w.heap.size + 2 ≠ _; omega))]
      exact (HCB.out S4 w5 HT5.out).2.2 j v hj
    have hn6 := HNUM.out W6.drew hb6.drew
    have hd : W6.drew.cell? ⟨w.heap.size, 0, none⟩ = some (.slice A5 n5 c5) ∧ W6.drew.cell? ⟨w.heap.size, 1, none⟩ = some (.slice none 0 0) ∧ W6.drew.cell? ⟨w.heap.size, 2, none⟩ = some (.int .i64 DD.armed) ∧ W6.drew.cell? ⟨w.heap.size, 3, none⟩ = some (.bool DD.off) := by
      simp only [World.cell?_drew]
      exact ⟨hc6 0 _ rfl, hc6 1 _ rfl, hc6 2 _ rfl, hc6 3 _ rfl⟩
    have HN6 := Lib.hid hn6
    have HC6 := Lib.hid (And.intro hc6 (And.intro hk6 (And.intro hs6 (And.intro h53 hr6))))
    have HB6 := Lib.hid hb6
    clear p0 p1 p2 p3 g0 g1 g2 g3 q0 q1 q2 q3 a0 a1 a2 a3 a4 hc6 hk6 hs6 h53 hr6 hb6 hn6 hW6
    go_wp2_with fail
    refine wp_region_held_drew (S := fun W => W.cell? ⟨w.heap.size, 0, none⟩ = some (.slice A5 n5 c5) ∧ W.cell? ⟨w.heap.size, 1, none⟩ = some (.slice none 0 0) ∧ W.cell? ⟨w.heap.size, 2, none⟩ = some (.int .i64 DD.armed) ∧ W.cell? ⟨w.heap.size, 3, none⟩ = some (.bool DD.off)) (by kernel_rfl) hd (fun hHeld => ?_)
    clear hd
    refine wpAnyH_take (i := 0) (oi := { dst := Option.some 100, op := Op.load 41 (Operand.tmp 4), type := 41, pos := "law.go:72", after := #[], guard := Option.none }) (v := .agg #[.slice A5 n5 c5, .slice none 0 0, .int .i64 DD.armed, .bool DD.off]) rfl (by kernel_rfl) (by kernel_rfl) (by kernel_rfl) (fun _ _ _ h => h) (Or.inl ⟨by rfl, ?_⟩) hHeld ?_
    · intro W hSw
      obtain ⟨q0, q1, q2, q3⟩ := hSw
      go_simp
    simp only [Act.put, List.setIfInBounds_toArray, List.set_cons_zero, List.set_cons_succ]
    refine wpAnyH_take (i := 1) (oi := { dst := Option.some 101, op := Op.move (Operand.tmp 8), type := 26, pos := "law.go:72", after := #[], guard := Option.none }) (v := .nilIface) rfl (by kernel_rfl) (by kernel_rfl) (by kernel_rfl) (fun _ _ _ h => h) (Or.inl ⟨by rfl, ?_⟩) hHeld ?_
    · intro W hSw
      obtain ⟨q0, q1, q2, q3⟩ := hSw
      go_simp
    simp only [Act.put, List.setIfInBounds_toArray, List.set_cons_zero, List.set_cons_succ]
    refine wpAnyH_take (i := 3) (oi := { dst := Option.some 103, op := Op.move (Operand.tmp 9), type := 3, pos := "law.go:72", after := #[{ on := 5, ground := Ground.gcOnly Departure.lateStores }], guard := Option.none }) (v := .int .i64 0) rfl (by kernel_rfl) (by kernel_rfl) (by kernel_rfl) (fun _ _ _ h => h) (Or.inl ⟨by rfl, ?_⟩) hHeld ?_
    · intro W hSw
      go_simp
    simp only [Act.put, List.setIfInBounds_toArray, List.set_cons_zero, List.set_cons_succ]
    refine wpAnyH_ready (rs := [2]) (by kernel_rfl) (by simp) ?_
    refine AllReadyH.cons (o := { dst := Option.some 102, op := Op.call { callee := Callee.value (Operand.func 8), args := #[Operand.tmp 101], argTypes := #[26] }, type := 3, pos := "law.go:72", after := #[{ on := 1, ground := Ground.data }], guard := Option.none }) rfl (fun K hK => ?_) AllReadyH.nil
    go_simp
    refine HN6.out.mono ?_
    rintro y w7 ⟨rfl, hb7⟩
    have h7 : Below W6.heap.size W6 w7 := (Below.refl _ _).drew.trans hb7
    have hlt : w.heap.size < W6.heap.size := by have := HC6.out.2.2.1; have := HC6.out.2.2.2.1; omega
    have hq7 : ∀ j, w7.cell? ⟨w.heap.size, j, none⟩ = W6.cell? ⟨w.heap.size, j, none⟩ := fun j => h7.cell (p := ⟨w.heap.size, j, none⟩) hlt
    have hd7 : w7.cell? ⟨w.heap.size, 0, none⟩ = some (.slice A5 n5 c5) ∧ w7.cell? ⟨w.heap.size, 1, none⟩ = some (.slice none 0 0) ∧ w7.cell? ⟨w.heap.size, 2, none⟩ = some (.int .i64 DD.armed) ∧ w7.cell? ⟨w.heap.size, 3, none⟩ = some (.bool DD.off) :=
      ⟨(hq7 0).trans (HC6.out.1 0 _ rfl), (hq7 1).trans (HC6.out.1 1 _ rfl), (hq7 2).trans (HC6.out.1 2 _ rfl), (hq7 3).trans (HC6.out.1 3 _ rfl)⟩
    obtain ⟨r0, f0⟩ := HC6.out.2.2.2.2 0 _ rfl w7 h7
    obtain ⟨r1, f1⟩ := HC6.out.2.2.2.2 1 _ rfl w7 h7
    obtain ⟨r2, f2⟩ := HC6.out.2.2.2.2 2 _ rfl w7 h7
    obtain ⟨r3, f3⟩ := HC6.out.2.2.2.2 3 _ rfl w7 h7
    have HB7 := Lib.hid h7
    have HD7 := Lib.hid hd7
    clear h7 hlt hq7 hb7 hHeld hd7
    refine hK.out _ _ HD7.out (fun hHeld => ?_)
    clear hK K
    refine wpAnyH_take (i := 4) (oi := { dst := Option.some 104, op := Op.binOp BinOp.eql 3 (Operand.tmp 102) (Operand.tmp 103) 3, type := 4, pos := "law.go:72", after := #[{ on := 2, ground := Ground.data }, { on := 3, ground := Ground.data }, { on := 5, ground := Ground.gcOnly Departure.lateStores }], guard := Option.none }) (v := .bool true) rfl (by kernel_rfl) (by kernel_rfl) (by kernel_rfl) (fun _ _ _ h => h) (Or.inl ⟨by rfl, ?_⟩) hHeld ?_
    · intro W hSw
      go_simp
    simp only [Act.put, List.setIfInBounds_toArray, List.set_cons_zero, List.set_cons_succ]
    refine wpAnyH_ready (rs := [5]) (by kernel_rfl) (by simp) ?_
    refine AllReadyH.cons (o := { dst := Option.none, op := Op.store 41 (Operand.tmp 6) (Operand.tmp 100), type := 0, pos := "law.go:72", after := #[{ on := 0, ground := Ground.data }, { on := 2, ground := Ground.chain }, { on := 0, ground := Ground.phase }, { on := 1, ground := Ground.textOnly Departure.lateStores }, { on := 2, ground := Ground.textOnly Departure.lateStoresUnsure }, { on := 3, ground := Ground.textOnly Departure.lateStores }, { on := 4, ground := Ground.textOnly Departure.lateStores }], guard := Option.none }) rfl (fun K hK => ?_) AllReadyH.nil
    go_simp
    have hd8 : ∀ j v, w7.cell? ⟨w.heap.size, j, none⟩ = some v → ((((w7.setCell ⟨w.heap.size + 2, 0, none⟩ (.slice A5 n5 c5)).setCell ⟨w.heap.size + 2, 1, none⟩ (.slice none 0 0)).setCell ⟨w.heap.size + 2, 2, none⟩ (.int .i64 DD.armed)).setCell ⟨w.heap.size + 2, 3, none⟩ (.bool DD.off)).cell? ⟨w.heap.size, j, none⟩ = some v := fun j v hj => by
      rw [World.cell?_setCell_other _ _ _ _ (by simp), World.cell?_setCell_other _ _ _ _ (by simp), World.cell?_setCell_other _ _ _ _ (by simp), World.cell?_setCell_other _ _ _ _ (by simp)]
      exact hj
    refine hK.out _ _ ⟨hd8 0 _ HD7.out.1, hd8 1 _ HD7.out.2.1, hd8 2 _ HD7.out.2.2.1, hd8 3 _ HD7.out.2.2.2⟩ (fun hHeld => ?_)
    clear hK K hd8
    refine wpAnyH_take (i := 6) (oi := { dst := Option.some 7, op := Op.assign (Operand.tmp 104), type := 4, pos := "law.go:72", after := #[{ on := 4, ground := Ground.data }, { on := 5, ground := Ground.chain }, { on := 0, ground := Ground.phase }, { on := 1, ground := Ground.phase }, { on := 2, ground := Ground.phase }, { on := 3, ground := Ground.phase }, { on := 4, ground := Ground.phase }, { on := 5, ground := Ground.phase }], guard := Option.none }) (v := .bool true) rfl (by kernel_rfl) (by kernel_rfl) (by kernel_rfl) (fun _ _ _ h => h) (Or.inl ⟨by rfl, ?_⟩) hHeld ?_
    · intro W hSw
      go_simp
    simp only [Act.put, List.setIfInBounds_toArray, List.set_cons_zero, List.set_cons_succ]
    clear hHeld
    refine wpAnyH_done (by kernel_rfl) ?_ _
    go_wp2_with fail
    obtain ⟨WF, hWF⟩ : ∃ WF, WF = (((w7.setCell ⟨w.heap.size + 2, 0, none⟩ (.slice A5 n5 c5)).setCell ⟨w.heap.size + 2, 1, none⟩ (.slice none 0 0)).setCell ⟨w.heap.size + 2, 2, none⟩ (.int .i64 DD.armed)).setCell ⟨w.heap.size + 2, 3, none⟩ (.bool DD.off) := ⟨_, rfl⟩
    have hsF : WF.heap.size = w7.heap.size := by rw [hWF]; simp [World.setCell]
    have hkF : ∀ k, k < w5.heap.size → k ≠ w.heap.size → k ≠ w.heap.size + 2 → WF.heap[k]? = w5.heap[k]? := fun k h1 h2 h3 => by
      rw [hWF, set4_block _ _ _ _ _ _ k h3, HB7.out.block k (by have := HC6.out.2.2.1; omega)]
      exact HC6.out.2.1 k h2
    have hw07 : w0.heap.size ≤ w.heap.size + 2 := by have := HW.out; omega
    have hbF : Below w0.heap.size w0 WF := by rw [hWF]; exact set4_below (HB6.out.trans (HB7.out.mono HB6.out.size)) hw07 _ _ _ _
    have hT : Turn S S4 w w5 := (Turn.of_below HB3.out.1).trans HT5.out
    have hSn : ∀ k, S4 k → k < w4.heap.size ∧ (k < w.heap.size ∨ w.heap.size + 3 ≤ k) := fun k hk => by
      refine ⟨C.foot HL4.out.dk k hk, ?_⟩
      rcases HT4.out.new k hk with h1 | h1
      · exact Or.inl (HB3.out.2.2 k h1)
      · have := HB3.out.2.1; exact Or.inr (by omega)
    have hsz : w5.heap.size ≤ WF.heap.size := by have := HC6.out.2.2.1; have := HB7.out.size; omega
    have h45 : w4.heap.size ≤ w5.heap.size := HB5.out.size
    have h34 : w.heap.size + 3 ≤ w4.heap.size := by have := HT4.out.kept.size; have := HB3.out.2.1; omega
    have hLF : Live C w0 WF S4 p DD := ⟨C.frame HL5.out.dk fun k hk => by have := hSn k hk; exact hkF k (by omega) (by omega) (by omega), HL5.out.low, hbF⟩
    have hRF : RD WF (Av WF (fun k => S4 k ∨ Z k)) (.slice A5 n5 c5) (.slice none 0 0) DD := by
      refine (HRD5.out.kept fun k hk hlt => ?_).mono fun k hk => ?_
      · rcases hk with hk | hk
        · have hz := hk.2
          exact hkF k hlt (fun e => hz (Or.inr (Or.inr (by omega)))) (fun e => hz (Or.inr (Or.inr (by omega))))
        · exact hkF k hlt (by omega) (by omega)
      · rcases hk with hk | hk
        · exact ⟨by have := hk.1; omega, fun hs => hs.elim (fun h => hk.2 (Or.inl h)) (fun h => hk.2 (Or.inr (Or.inl h)))⟩
        · exact ⟨by omega, fun hs => by rcases hs with hs | hs; exact (by have := (hSn k hs).1; omega); exact (by have := HZ.out k hs; omega)⟩
    have hTF : Turn S S4 w WF := ⟨⟨hbF.os.trans (by rw [← HB3.out.1.os, HL.out.below.os]), hbF.tape.trans (by rw [← HB3.out.1.tape, HL.out.below.tape]), hbF.output.trans (by rw [← HB3.out.1.output, HL.out.below.output]), by have := hT.kept.size; omega, fun k hk hn => (hkF k (by have := hT.kept.size; omega) (by omega) (by omega)).trans (hT.kept.block k hk hn)⟩, hT.new⟩
    have HF := Lib.hid (And.intro hWF (And.intro hLF (And.intro hRF hTF)))
    clear hWF hsF hkF hw07 hbF hT hSn hsz h45 h34 hLF hRF hTF
    refine bodyPost_ret (v := .tuple #[.agg #[.slice A5 n5 c5, .slice none 0 0, .int .i64 DD.armed, .bool DD.off], .bool true]) ?_ rfl ⟨S4, .slice A5 n5 c5, .slice none 0 0, by rw [HDD.out], ?_, ?_, ?_⟩
    · simp only [results, hres]
      go_simp
    · rw [HDD.out, ← HF.out.1]; exact HF.out.2.1
    · rw [HDD.out, ← HF.out.1]; exact HF.out.2.2.1
    · rw [← HF.out.1]; exact HF.out.2.2.2
  · go_enter Tryd.func19, Tryd.ntmps19
    go_upto_region 3 with fail
    rw [← hW1, ← hW2, ← hW3]
    clear hW1 hW2 hW3
    go_upto_region 4 with (go_at_call 9; go_must (refine (live_write HL.out a.at_ Ad nd cd a.data HOK.out.2.1 (by have := HFEW.out; omega) HD.out).mono ?_; rintro y w4 ⟨S4, rfl, h4, ht4⟩; have HL4 := Lib.hid h4; have HT4 := Lib.hid ht4; clear h4 ht4))
    clear q0 q1 q2 q3 a0 a1 a2 a3 a4
    obtain ⟨q0, -⟩ := (HCB.out S4 w4 HT4.out).1 0 _ rfl
    obtain ⟨q1, -⟩ := (HCB.out S4 w4 HT4.out).1 1 _ rfl
    obtain ⟨q2, -⟩ := (HCB.out S4 w4 HT4.out).1 2 _ rfl
    obtain ⟨q3, -⟩ := (HCB.out S4 w4 HT4.out).1 3 _ rfl
    have a0 := (HCB.out S4 w4 HT4.out).2.1 0 _ rfl
    have a1 := (HCB.out S4 w4 HT4.out).2.1 1 _ rfl
    have a2 := (HCB.out S4 w4 HT4.out).2.1 2 _ rfl
    have a3 := (HCB.out S4 w4 HT4.out).2.1 3 _ rfl
    have a4 := (HCB.out S4 w4 HT4.out).2.1 4 _ rfl
    have HZ4 := Lib.hid (HR.out.turn (HT4.out.beside (T := fun k => Z k ∨ (w.heap.size ≤ k ∧ k < w.heap.size + 3))))
    have href := RefPut_any _ _ d a.at_ Ad nd cd a.data w4 _ HZ4.out HOK.out.2.1 (HDZ.out.turn (HT4.out.beside (T := fun k => Z k ∨ (w.heap.size ≤ k ∧ k < w.heap.size + 3)))) (by have := HFEW.out; omega)
    unfold rdv at href
    have HREF := Lib.hid href
    clear href
    go_upto_region 19 with (go_at_call 32; go_must (refine HREF.out.mono ?_; rintro y w5 ⟨vL5, rfl, hrd5, hb5⟩; have HT5 := Lib.hid (HT4.out.trans (Turn.of_below hb5)); obtain ⟨A6, c6, e6, _, _⟩ := hrd5.l.form; obtain ⟨n6, hn6⟩ : ∃ n6, n6 = (putD d a.at_ a.data).L.length := ⟨_, rfl⟩; rw [← hn6] at e6; clear hn6; subst e6; obtain ⟨p0, g0⟩ := (HCB.out S4 w5 HT5.out).1 0 _ rfl; obtain ⟨p1, g1⟩ := (HCB.out S4 w5 HT5.out).1 1 _ rfl; obtain ⟨p2, g2⟩ := (HCB.out S4 w5 HT5.out).1 2 _ rfl; obtain ⟨p3, g3⟩ := (HCB.out S4 w5 HT5.out).1 3 _ rfl; have HRD5 := Lib.hid hrd5; have HB5 := Lib.hid hb5; clear hrd5 hb5))
    have HDD : Hid (actD d a = (putD d a.at_ a.data)) := Lib.hid (by rw [HACT.out]; rfl)
    have HL5 := Lib.hid (HL4.out.more HB5.out)
    have HNUM : Hid (∀ W, Below w0.heap.size w0 W → Calls Tryd.prog 8 #[er (putE d a.at_ a.data)] W fun x w' => x = .returned (.int .i64 (((putE d a.at_ a.data) : Nat) : Int)) ∧ Below W.heap.size W w') := Lib.hid fun W hW => num_ev _ W (HS.out.below HG.out hW)
    generalize (putD d a.at_ a.data) = DD at HRD5 HL5 HDD
    obtain ⟨W6, hW6⟩ : ∃ W6, W6 = (((w5.setCell ⟨w.heap.size, 0, none⟩ (.slice AB nB cB)).setCell ⟨w.heap.size, 1, none⟩ (.slice A6 n6 c6)).setCell ⟨w.heap.size, 2, none⟩ (.int .i64 DD.armed)).setCell ⟨w.heap.size, 3, none⟩ (.bool DD.off) := ⟨_, rfl⟩
    rw [← hW6]
    have hc6 : ∀ j v, (#[.slice AB nB cB, .slice A6 n6 c6, .int .i64 DD.armed, .bool DD.off] : Array Value)[j]? = some v → W6.cell? ⟨w.heap.size, j, none⟩ = some v := by rw [hW6]; exact set4_cell _ _ _ _ p0 p1 p2 p3
    have hk6 : ∀ k, k ≠ w.heap.size → W6.heap[k]? = w5.heap[k]? := fun k hk => by rw [hW6]; exact set4_block _ _ _ _ _ _ k hk
    have hs6 : W6.heap.size = w5.heap.size := by rw [hW6]; simp [World.setCell]
    have hb6 : Below w0.heap.size w0 W6 := by rw [hW6]; exact set4_below HL5.out.below HW.out _ _ _ _
    have h53 : w.heap.size + 3 ≤ w5.heap.size := by have := HT5.out.kept.size; have := HB3.out.2.1; omega
    have hr6 : ∀ j v, (#[.slice none 0 0, .slice none 0 0, .int .i64 0, .bool false] : Array Value)[j]? = some v → ∀ W, Below W6.heap.size W6 W → W.cell? ⟨w.heap.size + 2, j, none⟩ = some v ∧ W.frozen? ⟨w.heap.size + 2, j, none⟩ = false := by
      intro j v hj W hW
      rw [hW.cell (p := ⟨w.heap.size + 2, j, none⟩) (by show w.heap.size + 2 < _; omega), hW.frozen (p := ⟨w.heap.size + 2, j, none⟩) (by show w.heap.size + 2 < _; omega), World.cell?_of_block (w := w5) (a := ⟨w.heap.size + 2, j, none⟩) (hk6 _ (by show w.heap.size + 2 ≠ _; omega)), World.frozen?_of_block (w := w5) (a := ⟨w.heap.size + 2, j, none⟩) (hk6 _ (by show w.heap.size + 2 ≠ _; omega))]
      exact (HCB.out S4 w5 HT5.out).2.2 j v hj
    have hn6 := HNUM.out W6.drew hb6.drew
    have hd : W6.drew.cell? ⟨w.heap.size, 0, none⟩ = some (.slice AB nB cB) ∧ W6.drew.cell? ⟨w.heap.size, 1, none⟩ = some (.slice A6 n6 c6) ∧ W6.drew.cell? ⟨w.heap.size, 2, none⟩ = some (.int .i64 DD.armed) ∧ W6.drew.cell? ⟨w.heap.size, 3, none⟩ = some (.bool DD.off) := by
      simp only [World.cell?_drew]
      exact ⟨hc6 0 _ rfl, hc6 1 _ rfl, hc6 2 _ rfl, hc6 3 _ rfl⟩
    have HN6 := Lib.hid hn6
    have HC6 := Lib.hid (And.intro hc6 (And.intro hk6 (And.intro hs6 (And.intro h53 hr6))))
    have HB6 := Lib.hid hb6
    clear p0 p1 p2 p3 g0 g1 g2 g3 q0 q1 q2 q3 a0 a1 a2 a3 a4 hc6 hk6 hs6 h53 hr6 hb6 hn6 hW6
    go_wp2_with fail
    refine wp_region_held_drew (S := fun W => W.cell? ⟨w.heap.size, 0, none⟩ = some (.slice AB nB cB) ∧ W.cell? ⟨w.heap.size, 1, none⟩ = some (.slice A6 n6 c6) ∧ W.cell? ⟨w.heap.size, 2, none⟩ = some (.int .i64 DD.armed) ∧ W.cell? ⟨w.heap.size, 3, none⟩ = some (.bool DD.off)) (by kernel_rfl) hd (fun hHeld => ?_)
    clear hd
    refine wpAnyH_take (i := 0) (oi := { dst := Option.some 100, op := Op.load 41 (Operand.tmp 4), type := 41, pos := "law.go:72", after := #[], guard := Option.none }) (v := .agg #[.slice AB nB cB, .slice A6 n6 c6, .int .i64 DD.armed, .bool DD.off]) rfl (by kernel_rfl) (by kernel_rfl) (by kernel_rfl) (fun _ _ _ h => h) (Or.inl ⟨by rfl, ?_⟩) hHeld ?_
    · intro W hSw
      obtain ⟨q0, q1, q2, q3⟩ := hSw
      go_simp
    simp only [Act.put, List.setIfInBounds_toArray, List.set_cons_zero, List.set_cons_succ]
    refine wpAnyH_take (i := 1) (oi := { dst := Option.some 101, op := Op.move (Operand.tmp 8), type := 26, pos := "law.go:72", after := #[], guard := Option.none }) (v := er (putE d a.at_ a.data)) rfl (by kernel_rfl) (by kernel_rfl) (by kernel_rfl) (fun _ _ _ h => h) (Or.inl ⟨by rfl, ?_⟩) hHeld ?_
    · intro W hSw
      obtain ⟨q0, q1, q2, q3⟩ := hSw
      go_simp
    simp only [Act.put, List.setIfInBounds_toArray, List.set_cons_zero, List.set_cons_succ]
    refine wpAnyH_take (i := 3) (oi := { dst := Option.some 103, op := Op.move (Operand.tmp 9), type := 3, pos := "law.go:72", after := #[{ on := 5, ground := Ground.gcOnly Departure.lateStores }], guard := Option.none }) (v := .int .i64 ((putE d a.at_ a.data) : Int)) rfl (by kernel_rfl) (by kernel_rfl) (by kernel_rfl) (fun _ _ _ h => h) (Or.inl ⟨by rfl, ?_⟩) hHeld ?_
    · intro W hSw
      go_simp
    simp only [Act.put, List.setIfInBounds_toArray, List.set_cons_zero, List.set_cons_succ]
    refine wpAnyH_ready (rs := [2]) (by kernel_rfl) (by simp) ?_
    refine AllReadyH.cons (o := { dst := Option.some 102, op := Op.call { callee := Callee.value (Operand.func 8), args := #[Operand.tmp 101], argTypes := #[26] }, type := 3, pos := "law.go:72", after := #[{ on := 1, ground := Ground.data }], guard := Option.none }) rfl (fun K hK => ?_) AllReadyH.nil
    go_simp
    refine HN6.out.mono ?_
    rintro y w7 ⟨rfl, hb7⟩
    have h7 : Below W6.heap.size W6 w7 := (Below.refl _ _).drew.trans hb7
    have hlt : w.heap.size < W6.heap.size := by have := HC6.out.2.2.1; have := HC6.out.2.2.2.1; omega
    have hq7 : ∀ j, w7.cell? ⟨w.heap.size, j, none⟩ = W6.cell? ⟨w.heap.size, j, none⟩ := fun j => h7.cell (p := ⟨w.heap.size, j, none⟩) hlt
    have hd7 : w7.cell? ⟨w.heap.size, 0, none⟩ = some (.slice AB nB cB) ∧ w7.cell? ⟨w.heap.size, 1, none⟩ = some (.slice A6 n6 c6) ∧ w7.cell? ⟨w.heap.size, 2, none⟩ = some (.int .i64 DD.armed) ∧ w7.cell? ⟨w.heap.size, 3, none⟩ = some (.bool DD.off) :=
      ⟨(hq7 0).trans (HC6.out.1 0 _ rfl), (hq7 1).trans (HC6.out.1 1 _ rfl), (hq7 2).trans (HC6.out.1 2 _ rfl), (hq7 3).trans (HC6.out.1 3 _ rfl)⟩
    obtain ⟨r0, f0⟩ := HC6.out.2.2.2.2 0 _ rfl w7 h7
    obtain ⟨r1, f1⟩ := HC6.out.2.2.2.2 1 _ rfl w7 h7
    obtain ⟨r2, f2⟩ := HC6.out.2.2.2.2 2 _ rfl w7 h7
    obtain ⟨r3, f3⟩ := HC6.out.2.2.2.2 3 _ rfl w7 h7
    have HB7 := Lib.hid h7
    have HD7 := Lib.hid hd7
    clear h7 hlt hq7 hb7 hHeld hd7
    refine hK.out _ _ HD7.out (fun hHeld => ?_)
    clear hK K
    refine wpAnyH_take (i := 4) (oi := { dst := Option.some 104, op := Op.binOp BinOp.eql 3 (Operand.tmp 102) (Operand.tmp 103) 3, type := 4, pos := "law.go:72", after := #[{ on := 2, ground := Ground.data }, { on := 3, ground := Ground.data }, { on := 5, ground := Ground.gcOnly Departure.lateStores }], guard := Option.none }) (v := .bool true) rfl (by kernel_rfl) (by kernel_rfl) (by kernel_rfl) (fun _ _ _ h => h) (Or.inl ⟨by rfl, ?_⟩) hHeld ?_
    · intro W hSw
      go_simp
    simp only [Act.put, List.setIfInBounds_toArray, List.set_cons_zero, List.set_cons_succ]
    refine wpAnyH_ready (rs := [5]) (by kernel_rfl) (by simp) ?_
    refine AllReadyH.cons (o := { dst := Option.none, op := Op.store 41 (Operand.tmp 6) (Operand.tmp 100), type := 0, pos := "law.go:72", after := #[{ on := 0, ground := Ground.data }, { on := 2, ground := Ground.chain }, { on := 0, ground := Ground.phase }, { on := 1, ground := Ground.textOnly Departure.lateStores }, { on := 2, ground := Ground.textOnly Departure.lateStoresUnsure }, { on := 3, ground := Ground.textOnly Departure.lateStores }, { on := 4, ground := Ground.textOnly Departure.lateStores }], guard := Option.none }) rfl (fun K hK => ?_) AllReadyH.nil
    go_simp
    have hd8 : ∀ j v, w7.cell? ⟨w.heap.size, j, none⟩ = some v → ((((w7.setCell ⟨w.heap.size + 2, 0, none⟩ (.slice AB nB cB)).setCell ⟨w.heap.size + 2, 1, none⟩ (.slice A6 n6 c6)).setCell ⟨w.heap.size + 2, 2, none⟩ (.int .i64 DD.armed)).setCell ⟨w.heap.size + 2, 3, none⟩ (.bool DD.off)).cell? ⟨w.heap.size, j, none⟩ = some v := fun j v hj => by
      rw [World.cell?_setCell_other _ _ _ _ (by simp), World.cell?_setCell_other _ _ _ _ (by simp), World.cell?_setCell_other _ _ _ _ (by simp), World.cell?_setCell_other _ _ _ _ (by simp)]
      exact hj
    refine hK.out _ _ ⟨hd8 0 _ HD7.out.1, hd8 1 _ HD7.out.2.1, hd8 2 _ HD7.out.2.2.1, hd8 3 _ HD7.out.2.2.2⟩ (fun hHeld => ?_)
    clear hK K hd8
    refine wpAnyH_take (i := 6) (oi := { dst := Option.some 7, op := Op.assign (Operand.tmp 104), type := 4, pos := "law.go:72", after := #[{ on := 4, ground := Ground.data }, { on := 5, ground := Ground.chain }, { on := 0, ground := Ground.phase }, { on := 1, ground := Ground.phase }, { on := 2, ground := Ground.phase }, { on := 3, ground := Ground.phase }, { on := 4, ground := Ground.phase }, { on := 5, ground := Ground.phase }], guard := Option.none }) (v := .bool true) rfl (by kernel_rfl) (by kernel_rfl) (by kernel_rfl) (fun _ _ _ h => h) (Or.inl ⟨by rfl, ?_⟩) hHeld ?_
    · intro W hSw
      go_simp
    simp only [Act.put, List.setIfInBounds_toArray, List.set_cons_zero, List.set_cons_succ]
    clear hHeld
    refine wpAnyH_done (by kernel_rfl) ?_ _
    go_wp2_with fail
    obtain ⟨WF, hWF⟩ : ∃ WF, WF = (((w7.setCell ⟨w.heap.size + 2, 0, none⟩ (.slice AB nB cB)).setCell ⟨w.heap.size + 2, 1, none⟩ (.slice A6 n6 c6)).setCell ⟨w.heap.size + 2, 2, none⟩ (.int .i64 DD.armed)).setCell ⟨w.heap.size + 2, 3, none⟩ (.bool DD.off) := ⟨_, rfl⟩
    have hsF : WF.heap.size = w7.heap.size := by rw [hWF]; simp [World.setCell]
    have hkF : ∀ k, k < w5.heap.size → k ≠ w.heap.size → k ≠ w.heap.size + 2 → WF.heap[k]? = w5.heap[k]? := fun k h1 h2 h3 => by
      rw [hWF, set4_block _ _ _ _ _ _ k h3, HB7.out.block k (by have := HC6.out.2.2.1; omega)]
      exact HC6.out.2.1 k h2
    have hw07 : w0.heap.size ≤ w.heap.size + 2 := by have := HW.out; omega
    have hbF : Below w0.heap.size w0 WF := by rw [hWF]; exact set4_below (HB6.out.trans (HB7.out.mono HB6.out.size)) hw07 _ _ _ _
    have hT : Turn S S4 w w5 := (Turn.of_below HB3.out.1).trans HT5.out
    have hSn : ∀ k, S4 k → k < w4.heap.size ∧ (k < w.heap.size ∨ w.heap.size + 3 ≤ k) := fun k hk => by
      refine ⟨C.foot HL4.out.dk k hk, ?_⟩
      rcases HT4.out.new k hk with h1 | h1
      · exact Or.inl (HB3.out.2.2 k h1)
      · have := HB3.out.2.1; exact Or.inr (by omega)
    have hsz : w5.heap.size ≤ WF.heap.size := by have := HC6.out.2.2.1; have := HB7.out.size; omega
    have h45 : w4.heap.size ≤ w5.heap.size := HB5.out.size
    have h34 : w.heap.size + 3 ≤ w4.heap.size := by have := HT4.out.kept.size; have := HB3.out.2.1; omega
    have hLF : Live C w0 WF S4 p DD := ⟨C.frame HL5.out.dk fun k hk => by have := hSn k hk; exact hkF k (by omega) (by omega) (by omega), HL5.out.low, hbF⟩
    have hRF : RD WF (Av WF (fun k => S4 k ∨ Z k)) (.slice AB nB cB) (.slice A6 n6 c6) DD := by
      refine (HRD5.out.kept fun k hk hlt => ?_).mono fun k hk => ?_
      · rcases hk with hk | hk
        · have hz := hk.2
          exact hkF k hlt (fun e => hz (Or.inr (Or.inr (by omega)))) (fun e => hz (Or.inr (Or.inr (by omega))))
        · exact hkF k hlt (by omega) (by omega)
      · rcases hk with hk | hk
        · exact ⟨by have := hk.1; omega, fun hs => hs.elim (fun h => hk.2 (Or.inl h)) (fun h => hk.2 (Or.inr (Or.inl h)))⟩
        · exact ⟨by omega, fun hs => by rcases hs with hs | hs; exact (by have := (hSn k hs).1; omega); exact (by have := HZ.out k hs; omega)⟩
    have hTF : Turn S S4 w WF := ⟨⟨hbF.os.trans (by rw [← HB3.out.1.os, HL.out.below.os]), hbF.tape.trans (by rw [← HB3.out.1.tape, HL.out.below.tape]), hbF.output.trans (by rw [← HB3.out.1.output, HL.out.below.output]), by have := hT.kept.size; omega, fun k hk hn => (hkF k (by have := hT.kept.size; omega) (by omega) (by omega)).trans (hT.kept.block k hk hn)⟩, hT.new⟩
    have HF := Lib.hid (And.intro hWF (And.intro hLF (And.intro hRF hTF)))
    clear hWF hsF hkF hw07 hbF hT hSn hsz h45 h34 hLF hRF hTF
    refine bodyPost_ret (v := .tuple #[.agg #[.slice AB nB cB, .slice A6 n6 c6, .int .i64 DD.armed, .bool DD.off], .bool true]) ?_ rfl ⟨S4, .slice AB nB cB, .slice A6 n6 c6, by rw [HDD.out], ?_, ?_, ?_⟩
    · simp only [results, hres]
      go_simp
    · rw [HDD.out, ← HF.out.1]; exact HF.out.2.1
    · rw [HDD.out, ← HF.out.1]; exact HF.out.2.2.1
    · rw [← HF.out.1]; exact HF.out.2.2.2
  · go_enter Tryd.func19, Tryd.ntmps19
    go_upto_region 3 with fail
    rw [← hW1, ← hW2, ← hW3]
    clear hW1 hW2 hW3
    go_upto_region 4 with (go_at_call 9; go_must (refine (live_write HL.out a.at_ Ad nd cd a.data HOK.out.2.1 (by have := HFEW.out; omega) HD.out).mono ?_; rintro y w4 ⟨S4, rfl, h4, ht4⟩; have HL4 := Lib.hid h4; have HT4 := Lib.hid ht4; clear h4 ht4))
    clear q0 q1 q2 q3 a0 a1 a2 a3 a4
    obtain ⟨q0, -⟩ := (HCB.out S4 w4 HT4.out).1 0 _ rfl
    obtain ⟨q1, -⟩ := (HCB.out S4 w4 HT4.out).1 1 _ rfl
    obtain ⟨q2, -⟩ := (HCB.out S4 w4 HT4.out).1 2 _ rfl
    obtain ⟨q3, -⟩ := (HCB.out S4 w4 HT4.out).1 3 _ rfl
    have a0 := (HCB.out S4 w4 HT4.out).2.1 0 _ rfl
    have a1 := (HCB.out S4 w4 HT4.out).2.1 1 _ rfl
    have a2 := (HCB.out S4 w4 HT4.out).2.1 2 _ rfl
    have a3 := (HCB.out S4 w4 HT4.out).2.1 3 _ rfl
    have a4 := (HCB.out S4 w4 HT4.out).2.1 4 _ rfl
    have HZ4 := Lib.hid (HR.out.turn (HT4.out.beside (T := fun k => Z k ∨ (w.heap.size ≤ k ∧ k < w.heap.size + 3))))
    have href := RefPut_any _ _ d a.at_ Ad nd cd a.data w4 _ HZ4.out HOK.out.2.1 (HDZ.out.turn (HT4.out.beside (T := fun k => Z k ∨ (w.heap.size ≤ k ∧ k < w.heap.size + 3)))) (by have := HFEW.out; omega)
    unfold rdv at href
    have HREF := Lib.hid href
    clear href
    go_upto_region 19 with (go_at_call 32; go_must (refine HREF.out.mono ?_; rintro y w5 ⟨vL5, rfl, hrd5, hb5⟩; have HT5 := Lib.hid (HT4.out.trans (Turn.of_below hb5)); obtain ⟨A6, c6, e6, _, _⟩ := hrd5.l.form; obtain ⟨n6, hn6⟩ : ∃ n6, n6 = (putD d a.at_ a.data).L.length := ⟨_, rfl⟩; rw [← hn6] at e6; clear hn6; subst e6; obtain ⟨p0, g0⟩ := (HCB.out S4 w5 HT5.out).1 0 _ rfl; obtain ⟨p1, g1⟩ := (HCB.out S4 w5 HT5.out).1 1 _ rfl; obtain ⟨p2, g2⟩ := (HCB.out S4 w5 HT5.out).1 2 _ rfl; obtain ⟨p3, g3⟩ := (HCB.out S4 w5 HT5.out).1 3 _ rfl; have HRD5 := Lib.hid hrd5; have HB5 := Lib.hid hb5; clear hrd5 hb5))
    have HDD : Hid (actD d a = (putD d a.at_ a.data)) := Lib.hid (by rw [HACT.out]; rfl)
    have HL5 := Lib.hid (HL4.out.more HB5.out)
    have HNUM : Hid (∀ W, Below w0.heap.size w0 W → Calls Tryd.prog 8 #[er (putE d a.at_ a.data)] W fun x w' => x = .returned (.int .i64 (((putE d a.at_ a.data) : Nat) : Int)) ∧ Below W.heap.size W w') := Lib.hid fun W hW => num_ev _ W (HS.out.below HG.out hW)
    generalize (putD d a.at_ a.data) = DD at HRD5 HL5 HDD
    obtain ⟨W6, hW6⟩ : ∃ W6, W6 = (((w5.setCell ⟨w.heap.size, 0, none⟩ (.slice AB nB cB)).setCell ⟨w.heap.size, 1, none⟩ (.slice A6 n6 c6)).setCell ⟨w.heap.size, 2, none⟩ (.int .i64 DD.armed)).setCell ⟨w.heap.size, 3, none⟩ (.bool DD.off) := ⟨_, rfl⟩
    rw [← hW6]
    have hc6 : ∀ j v, (#[.slice AB nB cB, .slice A6 n6 c6, .int .i64 DD.armed, .bool DD.off] : Array Value)[j]? = some v → W6.cell? ⟨w.heap.size, j, none⟩ = some v := by rw [hW6]; exact set4_cell _ _ _ _ p0 p1 p2 p3
    have hk6 : ∀ k, k ≠ w.heap.size → W6.heap[k]? = w5.heap[k]? := fun k hk => by rw [hW6]; exact set4_block _ _ _ _ _ _ k hk
    have hs6 : W6.heap.size = w5.heap.size := by rw [hW6]; simp [World.setCell]
    have hb6 : Below w0.heap.size w0 W6 := by rw [hW6]; exact set4_below HL5.out.below HW.out _ _ _ _
    have h53 : w.heap.size + 3 ≤ w5.heap.size := by have := HT5.out.kept.size; have := HB3.out.2.1; omega
    have hr6 : ∀ j v, (#[.slice none 0 0, .slice none 0 0, .int .i64 0, .bool false] : Array Value)[j]? = some v → ∀ W, Below W6.heap.size W6 W → W.cell? ⟨w.heap.size + 2, j, none⟩ = some v ∧ W.frozen? ⟨w.heap.size + 2, j, none⟩ = false := by
      intro j v hj W hW
      rw [hW.cell (p := ⟨w.heap.size + 2, j, none⟩) (by show w.heap.size + 2 < _; omega), hW.frozen (p := ⟨w.heap.size + 2, j, none⟩) (by show w.heap.size + 2 < _; omega), World.cell?_of_block (w := w5) (a := ⟨w.heap.size + 2, j, none⟩) (hk6 _ (by show w.heap.size + 2 ≠ _; omega)), World.frozen?_of_block (w := w5) (a := ⟨w.heap.size + 2, j, none⟩) (hk6 _ (by show w.heap.size + 2 ≠ _; omega))]
      exact (HCB.out S4 w5 HT5.out).2.2 j v hj
    have hn6 := HNUM.out W6.drew hb6.drew
    have hd : W6.drew.cell? ⟨w.heap.size, 0, none⟩ = some (.slice AB nB cB) ∧ W6.drew.cell? ⟨w.heap.size, 1, none⟩ = some (.slice A6 n6 c6) ∧ W6.drew.cell? ⟨w.heap.size, 2, none⟩ = some (.int .i64 DD.armed) ∧ W6.drew.cell? ⟨w.heap.size, 3, none⟩ = some (.bool DD.off) := by
      simp only [World.cell?_drew]
      exact ⟨hc6 0 _ rfl, hc6 1 _ rfl, hc6 2 _ rfl, hc6 3 _ rfl⟩
    have HN6 := Lib.hid hn6
    have HC6 := Lib.hid (And.intro hc6 (And.intro hk6 (And.intro hs6 (And.intro h53 hr6))))
    have HB6 := Lib.hid hb6
    clear p0 p1 p2 p3 g0 g1 g2 g3 q0 q1 q2 q3 a0 a1 a2 a3 a4 hc6 hk6 hs6 h53 hr6 hb6 hn6 hW6
    go_wp2_with fail
    refine wp_region_held_drew (S := fun W => W.cell? ⟨w.heap.size, 0, none⟩ = some (.slice AB nB cB) ∧ W.cell? ⟨w.heap.size, 1, none⟩ = some (.slice A6 n6 c6) ∧ W.cell? ⟨w.heap.size, 2, none⟩ = some (.int .i64 DD.armed) ∧ W.cell? ⟨w.heap.size, 3, none⟩ = some (.bool DD.off)) (by kernel_rfl) hd (fun hHeld => ?_)
    clear hd
    refine wpAnyH_take (i := 0) (oi := { dst := Option.some 100, op := Op.load 41 (Operand.tmp 4), type := 41, pos := "law.go:72", after := #[], guard := Option.none }) (v := .agg #[.slice AB nB cB, .slice A6 n6 c6, .int .i64 DD.armed, .bool DD.off]) rfl (by kernel_rfl) (by kernel_rfl) (by kernel_rfl) (fun _ _ _ h => h) (Or.inl ⟨by rfl, ?_⟩) hHeld ?_
    · intro W hSw
      obtain ⟨q0, q1, q2, q3⟩ := hSw
      go_simp
    simp only [Act.put, List.setIfInBounds_toArray, List.set_cons_zero, List.set_cons_succ]
    refine wpAnyH_take (i := 1) (oi := { dst := Option.some 101, op := Op.move (Operand.tmp 8), type := 26, pos := "law.go:72", after := #[], guard := Option.none }) (v := er (putE d a.at_ a.data)) rfl (by kernel_rfl) (by kernel_rfl) (by kernel_rfl) (fun _ _ _ h => h) (Or.inl ⟨by rfl, ?_⟩) hHeld ?_
    · intro W hSw
      obtain ⟨q0, q1, q2, q3⟩ := hSw
      go_simp
    simp only [Act.put, List.setIfInBounds_toArray, List.set_cons_zero, List.set_cons_succ]
    refine wpAnyH_take (i := 3) (oi := { dst := Option.some 103, op := Op.move (Operand.tmp 9), type := 3, pos := "law.go:72", after := #[{ on := 5, ground := Ground.gcOnly Departure.lateStores }], guard := Option.none }) (v := .int .i64 ((putE d a.at_ a.data) : Int)) rfl (by kernel_rfl) (by kernel_rfl) (by kernel_rfl) (fun _ _ _ h => h) (Or.inl ⟨by rfl, ?_⟩) hHeld ?_
    · intro W hSw
      go_simp
    simp only [Act.put, List.setIfInBounds_toArray, List.set_cons_zero, List.set_cons_succ]
    refine wpAnyH_ready (rs := [2]) (by kernel_rfl) (by simp) ?_
    refine AllReadyH.cons (o := { dst := Option.some 102, op := Op.call { callee := Callee.value (Operand.func 8), args := #[Operand.tmp 101], argTypes := #[26] }, type := 3, pos := "law.go:72", after := #[{ on := 1, ground := Ground.data }], guard := Option.none }) rfl (fun K hK => ?_) AllReadyH.nil
    go_simp
    refine HN6.out.mono ?_
    rintro y w7 ⟨rfl, hb7⟩
    have h7 : Below W6.heap.size W6 w7 := (Below.refl _ _).drew.trans hb7
    have hlt : w.heap.size < W6.heap.size := by have := HC6.out.2.2.1; have := HC6.out.2.2.2.1; omega
    have hq7 : ∀ j, w7.cell? ⟨w.heap.size, j, none⟩ = W6.cell? ⟨w.heap.size, j, none⟩ := fun j => h7.cell (p := ⟨w.heap.size, j, none⟩) hlt
    have hd7 : w7.cell? ⟨w.heap.size, 0, none⟩ = some (.slice AB nB cB) ∧ w7.cell? ⟨w.heap.size, 1, none⟩ = some (.slice A6 n6 c6) ∧ w7.cell? ⟨w.heap.size, 2, none⟩ = some (.int .i64 DD.armed) ∧ w7.cell? ⟨w.heap.size, 3, none⟩ = some (.bool DD.off) :=
      ⟨(hq7 0).trans (HC6.out.1 0 _ rfl), (hq7 1).trans (HC6.out.1 1 _ rfl), (hq7 2).trans (HC6.out.1 2 _ rfl), (hq7 3).trans (HC6.out.1 3 _ rfl)⟩
    obtain ⟨r0, f0⟩ := HC6.out.2.2.2.2 0 _ rfl w7 h7
    obtain ⟨r1, f1⟩ := HC6.out.2.2.2.2 1 _ rfl w7 h7
    obtain ⟨r2, f2⟩ := HC6.out.2.2.2.2 2 _ rfl w7 h7
    obtain ⟨r3, f3⟩ := HC6.out.2.2.2.2 3 _ rfl w7 h7
    have HB7 := Lib.hid h7
    have HD7 := Lib.hid hd7
    clear h7 hlt hq7 hb7 hHeld hd7
    refine hK.out _ _ HD7.out (fun hHeld => ?_)
    clear hK K
    refine wpAnyH_take (i := 4) (oi := { dst := Option.some 104, op := Op.binOp BinOp.eql 3 (Operand.tmp 102) (Operand.tmp 103) 3, type := 4, pos := "law.go:72", after := #[{ on := 2, ground := Ground.data }, { on := 3, ground := Ground.data }, { on := 5, ground := Ground.gcOnly Departure.lateStores }], guard := Option.none }) (v := .bool true) rfl (by kernel_rfl) (by kernel_rfl) (by kernel_rfl) (fun _ _ _ h => h) (Or.inl ⟨by rfl, ?_⟩) hHeld ?_
    · intro W hSw
      go_simp
    simp only [Act.put, List.setIfInBounds_toArray, List.set_cons_zero, List.set_cons_succ]
    refine wpAnyH_ready (rs := [5]) (by kernel_rfl) (by simp) ?_
    refine AllReadyH.cons (o := { dst := Option.none, op := Op.store 41 (Operand.tmp 6) (Operand.tmp 100), type := 0, pos := "law.go:72", after := #[{ on := 0, ground := Ground.data }, { on := 2, ground := Ground.chain }, { on := 0, ground := Ground.phase }, { on := 1, ground := Ground.textOnly Departure.lateStores }, { on := 2, ground := Ground.textOnly Departure.lateStoresUnsure }, { on := 3, ground := Ground.textOnly Departure.lateStores }, { on := 4, ground := Ground.textOnly Departure.lateStores }], guard := Option.none }) rfl (fun K hK => ?_) AllReadyH.nil
    go_simp
    have hd8 : ∀ j v, w7.cell? ⟨w.heap.size, j, none⟩ = some v → ((((w7.setCell ⟨w.heap.size + 2, 0, none⟩ (.slice AB nB cB)).setCell ⟨w.heap.size + 2, 1, none⟩ (.slice A6 n6 c6)).setCell ⟨w.heap.size + 2, 2, none⟩ (.int .i64 DD.armed)).setCell ⟨w.heap.size + 2, 3, none⟩ (.bool DD.off)).cell? ⟨w.heap.size, j, none⟩ = some v := fun j v hj => by
      rw [World.cell?_setCell_other _ _ _ _ (by simp), World.cell?_setCell_other _ _ _ _ (by simp), World.cell?_setCell_other _ _ _ _ (by simp), World.cell?_setCell_other _ _ _ _ (by simp)]
      exact hj
    refine hK.out _ _ ⟨hd8 0 _ HD7.out.1, hd8 1 _ HD7.out.2.1, hd8 2 _ HD7.out.2.2.1, hd8 3 _ HD7.out.2.2.2⟩ (fun hHeld => ?_)
    clear hK K hd8
    refine wpAnyH_take (i := 6) (oi := { dst := Option.some 7, op := Op.assign (Operand.tmp 104), type := 4, pos := "law.go:72", after := #[{ on := 4, ground := Ground.data }, { on := 5, ground := Ground.chain }, { on := 0, ground := Ground.phase }, { on := 1, ground := Ground.phase }, { on := 2, ground := Ground.phase }, { on := 3, ground := Ground.phase }, { on := 4, ground := Ground.phase }, { on := 5, ground := Ground.phase }], guard := Option.none }) (v := .bool true) rfl (by kernel_rfl) (by kernel_rfl) (by kernel_rfl) (fun _ _ _ h => h) (Or.inl ⟨by rfl, ?_⟩) hHeld ?_
    · intro W hSw
      go_simp
    simp only [Act.put, List.setIfInBounds_toArray, List.set_cons_zero, List.set_cons_succ]
    clear hHeld
    refine wpAnyH_done (by kernel_rfl) ?_ _
    go_wp2_with fail
    obtain ⟨WF, hWF⟩ : ∃ WF, WF = (((w7.setCell ⟨w.heap.size + 2, 0, none⟩ (.slice AB nB cB)).setCell ⟨w.heap.size + 2, 1, none⟩ (.slice A6 n6 c6)).setCell ⟨w.heap.size + 2, 2, none⟩ (.int .i64 DD.armed)).setCell ⟨w.heap.size + 2, 3, none⟩ (.bool DD.off) := ⟨_, rfl⟩
    have hsF : WF.heap.size = w7.heap.size := by rw [hWF]; simp [World.setCell]
    have hkF : ∀ k, k < w5.heap.size → k ≠ w.heap.size → k ≠ w.heap.size + 2 → WF.heap[k]? = w5.heap[k]? := fun k h1 h2 h3 => by
      rw [hWF, set4_block _ _ _ _ _ _ k h3, HB7.out.block k (by have := HC6.out.2.2.1; omega)]
      exact HC6.out.2.1 k h2
    have hw07 : w0.heap.size ≤ w.heap.size + 2 := by have := HW.out; omega
    have hbF : Below w0.heap.size w0 WF := by rw [hWF]; exact set4_below (HB6.out.trans (HB7.out.mono HB6.out.size)) hw07 _ _ _ _
    have hT : Turn S S4 w w5 := (Turn.of_below HB3.out.1).trans HT5.out
    have hSn : ∀ k, S4 k → k < w4.heap.size ∧ (k < w.heap.size ∨ w.heap.size + 3 ≤ k) := fun k hk => by
      refine ⟨C.foot HL4.out.dk k hk, ?_⟩
      rcases HT4.out.new k hk with h1 | h1
      · exact Or.inl (HB3.out.2.2 k h1)
      · have := HB3.out.2.1; exact Or.inr (by omega)
    have hsz : w5.heap.size ≤ WF.heap.size := by have := HC6.out.2.2.1; have := HB7.out.size; omega
    have h45 : w4.heap.size ≤ w5.heap.size := HB5.out.size
    have h34 : w.heap.size + 3 ≤ w4.heap.size := by have := HT4.out.kept.size; have := HB3.out.2.1; omega
    have hLF : Live C w0 WF S4 p DD := ⟨C.frame HL5.out.dk fun k hk => by have := hSn k hk; exact hkF k (by omega) (by omega) (by omega), HL5.out.low, hbF⟩
    have hRF : RD WF (Av WF (fun k => S4 k ∨ Z k)) (.slice AB nB cB) (.slice A6 n6 c6) DD := by
      refine (HRD5.out.kept fun k hk hlt => ?_).mono fun k hk => ?_
      · rcases hk with hk | hk
        · have hz := hk.2
          exact hkF k hlt (fun e => hz (Or.inr (Or.inr (by omega)))) (fun e => hz (Or.inr (Or.inr (by omega))))
        · exact hkF k hlt (by omega) (by omega)
      · rcases hk with hk | hk
        · exact ⟨by have := hk.1; omega, fun hs => hs.elim (fun h => hk.2 (Or.inl h)) (fun h => hk.2 (Or.inr (Or.inl h)))⟩
        · exact ⟨by omega, fun hs => by rcases hs with hs | hs; exact (by have := (hSn k hs).1; omega); exact (by have := HZ.out k hs; omega)⟩
    have hTF : Turn S S4 w WF := ⟨⟨hbF.os.trans (by rw [← HB3.out.1.os, HL.out.below.os]), hbF.tape.trans (by rw [← HB3.out.1.tape, HL.out.below.tape]), hbF.output.trans (by rw [← HB3.out.1.output, HL.out.below.output]), by have := hT.kept.size; omega, fun k hk hn => (hkF k (by have := hT.kept.size; omega) (by omega) (by omega)).trans (hT.kept.block k hk hn)⟩, hT.new⟩
    have HF := Lib.hid (And.intro hWF (And.intro hLF (And.intro hRF hTF)))
    clear hWF hsF hkF hw07 hbF hT hSn hsz h45 h34 hLF hRF hTF
    refine bodyPost_ret (v := .tuple #[.agg #[.slice AB nB cB, .slice A6 n6 c6, .int .i64 DD.armed, .bool DD.off], .bool true]) ?_ rfl ⟨S4, .slice AB nB cB, .slice A6 n6 c6, by rw [HDD.out], ?_, ?_, ?_⟩
    · simp only [results, hres]
      go_simp
    · rw [HDD.out, ← HF.out.1]; exact HF.out.2.1
    · rw [HDD.out, ← HF.out.1]; exact HF.out.2.2.1
    · rw [← HF.out.1]; exact HF.out.2.2.2
  · go_enter Tryd.func19, Tryd.ntmps19
    go_upto_region 3 with fail
    rw [← hW1, ← hW2, ← hW3]
    clear hW1 hW2 hW3
    go_upto_region 4 with (go_at_call 9; go_must (refine (live_write HL.out a.at_ Ad nd cd a.data HOK.out.2.1 (by have := HFEW.out; omega) HD.out).mono ?_; rintro y w4 ⟨S4, rfl, h4, ht4⟩; have HL4 := Lib.hid h4; have HT4 := Lib.hid ht4; clear h4 ht4))
    clear q0 q1 q2 q3 a0 a1 a2 a3 a4
    obtain ⟨q0, -⟩ := (HCB.out S4 w4 HT4.out).1 0 _ rfl
    obtain ⟨q1, -⟩ := (HCB.out S4 w4 HT4.out).1 1 _ rfl
    obtain ⟨q2, -⟩ := (HCB.out S4 w4 HT4.out).1 2 _ rfl
    obtain ⟨q3, -⟩ := (HCB.out S4 w4 HT4.out).1 3 _ rfl
    have a0 := (HCB.out S4 w4 HT4.out).2.1 0 _ rfl
    have a1 := (HCB.out S4 w4 HT4.out).2.1 1 _ rfl
    have a2 := (HCB.out S4 w4 HT4.out).2.1 2 _ rfl
    have a3 := (HCB.out S4 w4 HT4.out).2.1 3 _ rfl
    have a4 := (HCB.out S4 w4 HT4.out).2.1 4 _ rfl
    have HZ4 := Lib.hid (HR.out.turn (HT4.out.beside (T := fun k => Z k ∨ (w.heap.size ≤ k ∧ k < w.heap.size + 3))))
    have href := RefPut_any _ _ d a.at_ Ad nd cd a.data w4 _ HZ4.out HOK.out.2.1 (HDZ.out.turn (HT4.out.beside (T := fun k => Z k ∨ (w.heap.size ≤ k ∧ k < w.heap.size + 3)))) (by have := HFEW.out; omega)
    unfold rdv at href
    have HREF := Lib.hid href
    clear href
    go_upto_region 19 with (go_at_call 32; go_must (refine HREF.out.mono ?_; rintro y w5 ⟨vL5, rfl, hrd5, hb5⟩; have HT5 := Lib.hid (HT4.out.trans (Turn.of_below hb5)); obtain ⟨A6, c6, e6, _, _⟩ := hrd5.l.form; obtain ⟨n6, hn6⟩ : ∃ n6, n6 = (putD d a.at_ a.data).L.length := ⟨_, rfl⟩; rw [← hn6] at e6; clear hn6; subst e6; obtain ⟨p0, g0⟩ := (HCB.out S4 w5 HT5.out).1 0 _ rfl; obtain ⟨p1, g1⟩ := (HCB.out S4 w5 HT5.out).1 1 _ rfl; obtain ⟨p2, g2⟩ := (HCB.out S4 w5 HT5.out).1 2 _ rfl; obtain ⟨p3, g3⟩ := (HCB.out S4 w5 HT5.out).1 3 _ rfl; have HRD5 := Lib.hid hrd5; have HB5 := Lib.hid hb5; clear hrd5 hb5))
    have HDD : Hid (actD d a = (putD d a.at_ a.data)) := Lib.hid (by rw [HACT.out]; rfl)
    have HL5 := Lib.hid (HL4.out.more HB5.out)
    have HNUM : Hid (∀ W, Below w0.heap.size w0 W → Calls Tryd.prog 8 #[er (putE d a.at_ a.data)] W fun x w' => x = .returned (.int .i64 (((putE d a.at_ a.data) : Nat) : Int)) ∧ Below W.heap.size W w') := Lib.hid fun W hW => num_ev _ W (HS.out.below HG.out hW)
    generalize (putD d a.at_ a.data) = DD at HRD5 HL5 HDD
    obtain ⟨W6, hW6⟩ : ∃ W6, W6 = (((w5.setCell ⟨w.heap.size, 0, none⟩ (.slice AB nB cB)).setCell ⟨w.heap.size, 1, none⟩ (.slice A6 n6 c6)).setCell ⟨w.heap.size, 2, none⟩ (.int .i64 DD.armed)).setCell ⟨w.heap.size, 3, none⟩ (.bool DD.off) := ⟨_, rfl⟩
    rw [← hW6]
    have hc6 : ∀ j v, (#[.slice AB nB cB, .slice A6 n6 c6, .int .i64 DD.armed, .bool DD.off] : Array Value)[j]? = some v → W6.cell? ⟨w.heap.size, j, none⟩ = some v := by rw [hW6]; exact set4_cell _ _ _ _ p0 p1 p2 p3
    have hk6 : ∀ k, k ≠ w.heap.size → W6.heap[k]? = w5.heap[k]? := fun k hk => by rw [hW6]; exact set4_block _ _ _ _ _ _ k hk
    have hs6 : W6.heap.size = w5.heap.size := by rw [hW6]; simp [World.setCell]
    have hb6 : Below w0.heap.size w0 W6 := by rw [hW6]; exact set4_below HL5.out.below HW.out _ _ _ _
    have h53 : w.heap.size + 3 ≤ w5.heap.size := by have := HT5.out.kept.size; have := HB3.out.2.1; omega
    have hr6 : ∀ j v, (#[.slice none 0 0, .slice none 0 0, .int .i64 0, .bool false] : Array Value)[j]? = some v → ∀ W, Below W6.heap.size W6 W → W.cell? ⟨w.heap.size + 2, j, none⟩ = some v ∧ W.frozen? ⟨w.heap.size + 2, j, none⟩ = false := by
      intro j v hj W hW
      rw [hW.cell (p := ⟨w.heap.size + 2, j, none⟩) (by show w.heap.size + 2 < _; omega), hW.frozen (p := ⟨w.heap.size + 2, j, none⟩) (by show w.heap.size + 2 < _; omega), World.cell?_of_block (w := w5) (a := ⟨w.heap.size + 2, j, none⟩) (hk6 _ (by show w.heap.size + 2 ≠ _; omega)), World.frozen?_of_block (w := w5) (a := ⟨w.heap.size + 2, j, none⟩) (hk6 _ (by show w.heap.size + 2 ≠ _; omega))]
      exact (HCB.out S4 w5 HT5.out).2.2 j v hj
    have hn6 := HNUM.out W6.drew hb6.drew
    have hd : W6.drew.cell? ⟨w.heap.size, 0, none⟩ = some (.slice AB nB cB) ∧ W6.drew.cell? ⟨w.heap.size, 1, none⟩ = some (.slice A6 n6 c6) ∧ W6.drew.cell? ⟨w.heap.size, 2, none⟩ = some (.int .i64 DD.armed) ∧ W6.drew.cell? ⟨w.heap.size, 3, none⟩ = some (.bool DD.off) := by
      simp only [World.cell?_drew]
      exact ⟨hc6 0 _ rfl, hc6 1 _ rfl, hc6 2 _ rfl, hc6 3 _ rfl⟩
    have HN6 := Lib.hid hn6
    have HC6 := Lib.hid (And.intro hc6 (And.intro hk6 (And.intro hs6 (And.intro h53 hr6))))
    have HB6 := Lib.hid hb6
    clear p0 p1 p2 p3 g0 g1 g2 g3 q0 q1 q2 q3 a0 a1 a2 a3 a4 hc6 hk6 hs6 h53 hr6 hb6 hn6 hW6
    go_wp2_with fail
    refine wp_region_held_drew (S := fun W => W.cell? ⟨w.heap.size, 0, none⟩ = some (.slice AB nB cB) ∧ W.cell? ⟨w.heap.size, 1, none⟩ = some (.slice A6 n6 c6) ∧ W.cell? ⟨w.heap.size, 2, none⟩ = some (.int .i64 DD.armed) ∧ W.cell? ⟨w.heap.size, 3, none⟩ = some (.bool DD.off)) (by kernel_rfl) hd (fun hHeld => ?_)
    clear hd
    refine wpAnyH_take (i := 0) (oi := { dst := Option.some 100, op := Op.load 41 (Operand.tmp 4), type := 41, pos := "law.go:72", after := #[], guard := Option.none }) (v := .agg #[.slice AB nB cB, .slice A6 n6 c6, .int .i64 DD.armed, .bool DD.off]) rfl (by kernel_rfl) (by kernel_rfl) (by kernel_rfl) (fun _ _ _ h => h) (Or.inl ⟨by rfl, ?_⟩) hHeld ?_
    · intro W hSw
      obtain ⟨q0, q1, q2, q3⟩ := hSw
      go_simp
    simp only [Act.put, List.setIfInBounds_toArray, List.set_cons_zero, List.set_cons_succ]
    refine wpAnyH_take (i := 1) (oi := { dst := Option.some 101, op := Op.move (Operand.tmp 8), type := 26, pos := "law.go:72", after := #[], guard := Option.none }) (v := er (putE d a.at_ a.data)) rfl (by kernel_rfl) (by kernel_rfl) (by kernel_rfl) (fun _ _ _ h => h) (Or.inl ⟨by rfl, ?_⟩) hHeld ?_
    · intro W hSw
      obtain ⟨q0, q1, q2, q3⟩ := hSw
      go_simp
    simp only [Act.put, List.setIfInBounds_toArray, List.set_cons_zero, List.set_cons_succ]
    refine wpAnyH_take (i := 3) (oi := { dst := Option.some 103, op := Op.move (Operand.tmp 9), type := 3, pos := "law.go:72", after := #[{ on := 5, ground := Ground.gcOnly Departure.lateStores }], guard := Option.none }) (v := .int .i64 ((putE d a.at_ a.data) : Int)) rfl (by kernel_rfl) (by kernel_rfl) (by kernel_rfl) (fun _ _ _ h => h) (Or.inl ⟨by rfl, ?_⟩) hHeld ?_
    · intro W hSw
      go_simp
    simp only [Act.put, List.setIfInBounds_toArray, List.set_cons_zero, List.set_cons_succ]
    refine wpAnyH_ready (rs := [2]) (by kernel_rfl) (by simp) ?_
    refine AllReadyH.cons (o := { dst := Option.some 102, op := Op.call { callee := Callee.value (Operand.func 8), args := #[Operand.tmp 101], argTypes := #[26] }, type := 3, pos := "law.go:72", after := #[{ on := 1, ground := Ground.data }], guard := Option.none }) rfl (fun K hK => ?_) AllReadyH.nil
    go_simp
    refine HN6.out.mono ?_
    rintro y w7 ⟨rfl, hb7⟩
    have h7 : Below W6.heap.size W6 w7 := (Below.refl _ _).drew.trans hb7
    have hlt : w.heap.size < W6.heap.size := by have := HC6.out.2.2.1; have := HC6.out.2.2.2.1; omega
    have hq7 : ∀ j, w7.cell? ⟨w.heap.size, j, none⟩ = W6.cell? ⟨w.heap.size, j, none⟩ := fun j => h7.cell (p := ⟨w.heap.size, j, none⟩) hlt
    have hd7 : w7.cell? ⟨w.heap.size, 0, none⟩ = some (.slice AB nB cB) ∧ w7.cell? ⟨w.heap.size, 1, none⟩ = some (.slice A6 n6 c6) ∧ w7.cell? ⟨w.heap.size, 2, none⟩ = some (.int .i64 DD.armed) ∧ w7.cell? ⟨w.heap.size, 3, none⟩ = some (.bool DD.off) :=
      ⟨(hq7 0).trans (HC6.out.1 0 _ rfl), (hq7 1).trans (HC6.out.1 1 _ rfl), (hq7 2).trans (HC6.out.1 2 _ rfl), (hq7 3).trans (HC6.out.1 3 _ rfl)⟩
    obtain ⟨r0, f0⟩ := HC6.out.2.2.2.2 0 _ rfl w7 h7
    obtain ⟨r1, f1⟩ := HC6.out.2.2.2.2 1 _ rfl w7 h7
    obtain ⟨r2, f2⟩ := HC6.out.2.2.2.2 2 _ rfl w7 h7
    obtain ⟨r3, f3⟩ := HC6.out.2.2.2.2 3 _ rfl w7 h7
    have HB7 := Lib.hid h7
    have HD7 := Lib.hid hd7
    clear h7 hlt hq7 hb7 hHeld hd7
    refine hK.out _ _ HD7.out (fun hHeld => ?_)
    clear hK K
    refine wpAnyH_take (i := 4) (oi := { dst := Option.some 104, op := Op.binOp BinOp.eql 3 (Operand.tmp 102) (Operand.tmp 103) 3, type := 4, pos := "law.go:72", after := #[{ on := 2, ground := Ground.data }, { on := 3, ground := Ground.data }, { on := 5, ground := Ground.gcOnly Departure.lateStores }], guard := Option.none }) (v := .bool true) rfl (by kernel_rfl) (by kernel_rfl) (by kernel_rfl) (fun _ _ _ h => h) (Or.inl ⟨by rfl, ?_⟩) hHeld ?_
    · intro W hSw
      go_simp
    simp only [Act.put, List.setIfInBounds_toArray, List.set_cons_zero, List.set_cons_succ]
    refine wpAnyH_ready (rs := [5]) (by kernel_rfl) (by simp) ?_
    refine AllReadyH.cons (o := { dst := Option.none, op := Op.store 41 (Operand.tmp 6) (Operand.tmp 100), type := 0, pos := "law.go:72", after := #[{ on := 0, ground := Ground.data }, { on := 2, ground := Ground.chain }, { on := 0, ground := Ground.phase }, { on := 1, ground := Ground.textOnly Departure.lateStores }, { on := 2, ground := Ground.textOnly Departure.lateStoresUnsure }, { on := 3, ground := Ground.textOnly Departure.lateStores }, { on := 4, ground := Ground.textOnly Departure.lateStores }], guard := Option.none }) rfl (fun K hK => ?_) AllReadyH.nil
    go_simp
    have hd8 : ∀ j v, w7.cell? ⟨w.heap.size, j, none⟩ = some v → ((((w7.setCell ⟨w.heap.size + 2, 0, none⟩ (.slice AB nB cB)).setCell ⟨w.heap.size + 2, 1, none⟩ (.slice A6 n6 c6)).setCell ⟨w.heap.size + 2, 2, none⟩ (.int .i64 DD.armed)).setCell ⟨w.heap.size + 2, 3, none⟩ (.bool DD.off)).cell? ⟨w.heap.size, j, none⟩ = some v := fun j v hj => by
      rw [World.cell?_setCell_other _ _ _ _ (by simp), World.cell?_setCell_other _ _ _ _ (by simp), World.cell?_setCell_other _ _ _ _ (by simp), World.cell?_setCell_other _ _ _ _ (by simp)]
      exact hj
    refine hK.out _ _ ⟨hd8 0 _ HD7.out.1, hd8 1 _ HD7.out.2.1, hd8 2 _ HD7.out.2.2.1, hd8 3 _ HD7.out.2.2.2⟩ (fun hHeld => ?_)
    clear hK K hd8
    refine wpAnyH_take (i := 6) (oi := { dst := Option.some 7, op := Op.assign (Operand.tmp 104), type := 4, pos := "law.go:72", after := #[{ on := 4, ground := Ground.data }, { on := 5, ground := Ground.chain }, { on := 0, ground := Ground.phase }, { on := 1, ground := Ground.phase }, { on := 2, ground := Ground.phase }, { on := 3, ground := Ground.phase }, { on := 4, ground := Ground.phase }, { on := 5, ground := Ground.phase }], guard := Option.none }) (v := .bool true) rfl (by kernel_rfl) (by kernel_rfl) (by kernel_rfl) (fun _ _ _ h => h) (Or.inl ⟨by rfl, ?_⟩) hHeld ?_
    · intro W hSw
      go_simp
    simp only [Act.put, List.setIfInBounds_toArray, List.set_cons_zero, List.set_cons_succ]
    clear hHeld
    refine wpAnyH_done (by kernel_rfl) ?_ _
    go_wp2_with fail
    obtain ⟨WF, hWF⟩ : ∃ WF, WF = (((w7.setCell ⟨w.heap.size + 2, 0, none⟩ (.slice AB nB cB)).setCell ⟨w.heap.size + 2, 1, none⟩ (.slice A6 n6 c6)).setCell ⟨w.heap.size + 2, 2, none⟩ (.int .i64 DD.armed)).setCell ⟨w.heap.size + 2, 3, none⟩ (.bool DD.off) := ⟨_, rfl⟩
    have hsF : WF.heap.size = w7.heap.size := by rw [hWF]; simp [World.setCell]
    have hkF : ∀ k, k < w5.heap.size → k ≠ w.heap.size → k ≠ w.heap.size + 2 → WF.heap[k]? = w5.heap[k]? := fun k h1 h2 h3 => by
      rw [hWF, set4_block _ _ _ _ _ _ k h3, HB7.out.block k (by have := HC6.out.2.2.1; omega)]
      exact HC6.out.2.1 k h2
    have hw07 : w0.heap.size ≤ w.heap.size + 2 := by have := HW.out; omega
    have hbF : Below w0.heap.size w0 WF := by rw [hWF]; exact set4_below (HB6.out.trans (HB7.out.mono HB6.out.size)) hw07 _ _ _ _
    have hT : Turn S S4 w w5 := (Turn.of_below HB3.out.1).trans HT5.out
    have hSn : ∀ k, S4 k → k < w4.heap.size ∧ (k < w.heap.size ∨ w.heap.size + 3 ≤ k) := fun k hk => by
      refine ⟨C.foot HL4.out.dk k hk, ?_⟩
      rcases HT4.out.new k hk with h1 | h1
      · exact Or.inl (HB3.out.2.2 k h1)
      · have := HB3.out.2.1; exact Or.inr (by omega)
    have hsz : w5.heap.size ≤ WF.heap.size := by have := HC6.out.2.2.1; have := HB7.out.size; omega
    have h45 : w4.heap.size ≤ w5.heap.size := HB5.out.size
    have h34 : w.heap.size + 3 ≤ w4.heap.size := by have := HT4.out.kept.size; have := HB3.out.2.1; omega
    have hLF : Live C w0 WF S4 p DD := ⟨C.frame HL5.out.dk fun k hk => by have := hSn k hk; exact hkF k (by omega) (by omega) (by omega), HL5.out.low, hbF⟩
    have hRF : RD WF (Av WF (fun k => S4 k ∨ Z k)) (.slice AB nB cB) (.slice A6 n6 c6) DD := by
      refine (HRD5.out.kept fun k hk hlt => ?_).mono fun k hk => ?_
      · rcases hk with hk | hk
        · have hz := hk.2
          exact hkF k hlt (fun e => hz (Or.inr (Or.inr (by omega)))) (fun e => hz (Or.inr (Or.inr (by omega))))
        · exact hkF k hlt (by omega) (by omega)
      · rcases hk with hk | hk
        · exact ⟨by have := hk.1; omega, fun hs => hs.elim (fun h => hk.2 (Or.inl h)) (fun h => hk.2 (Or.inr (Or.inl h)))⟩
        · exact ⟨by omega, fun hs => by rcases hs with hs | hs; exact (by have := (hSn k hs).1; omega); exact (by have := HZ.out k hs; omega)⟩
    have hTF : Turn S S4 w WF := ⟨⟨hbF.os.trans (by rw [← HB3.out.1.os, HL.out.below.os]), hbF.tape.trans (by rw [← HB3.out.1.tape, HL.out.below.tape]), hbF.output.trans (by rw [← HB3.out.1.output, HL.out.below.output]), by have := hT.kept.size; omega, fun k hk hn => (hkF k (by have := hT.kept.size; omega) (by omega) (by omega)).trans (hT.kept.block k hk hn)⟩, hT.new⟩
    have HF := Lib.hid (And.intro hWF (And.intro hLF (And.intro hRF hTF)))
    clear hWF hsF hkF hw07 hbF hT hSn hsz h45 h34 hLF hRF hTF
    refine bodyPost_ret (v := .tuple #[.agg #[.slice AB nB cB, .slice A6 n6 c6, .int .i64 DD.armed, .bool DD.off], .bool true]) ?_ rfl ⟨S4, .slice AB nB cB, .slice A6 n6 c6, by rw [HDD.out], ?_, ?_, ?_⟩
    · simp only [results, hres]
      go_simp
    · rw [HDD.out, ← HF.out.1]; exact HF.out.2.1
    · rw [HDD.out, ← HF.out.1]; exact HF.out.2.2.1
    · rw [← HF.out.1]; exact HF.out.2.2.2

end Go.Proofs.YtlhagbcomnjnoaaDoor.pk
