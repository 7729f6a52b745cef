/-
  The law ChunkPuts: walked.
-/
import Derived.Test.YtfdccdjfbdmblaaLawO
namespace Go.Proofs.Ytfdccdjfbdmblaa.pk
open Go Go.RowKit
set_option maxRecDepth 100000

structure Pt where
  key : Int
  off : Int
  piece : List UInt8
  last : Bool
/-- A slice of pieces. -/
def Parts (w : World) (v : Value) (l : List Pt) : Prop :=
  ∃ cs, RowT w (fun k => k < w.heap.size) 4 v l.length cs ∧ ∀ j (h : j < l.length), (inI l[j].key ∧ inI l[j].off) ∧ cs[j * 4]? = some (.int .i64 l[j].key) ∧ cs[j * 4 + 1]? = some (.int .i64 l[j].off) ∧
    (∃ u, cs[j * 4 + 2]? = some u ∧ Bys w u l[j].piece) ∧ cs[j * 4 + 3]? = some (.bool l[j].last)
theorem Parts.form {w : World} {v : Value} {l : List Pt} (h : Parts w v l) : ∃ A c, v = .slice A l.length c ∧ l.length ≤ c ∧ c ≤ 9223372036854775807 := by
  obtain ⟨cs, h, _⟩ := h
  exact h.form
theorem Parts.at_ {w : World} {A : Option Addr} {m c : Nat} {l : List Pt} (h : Parts w (.slice A m c) l) (i : Nat) (hi : i < l.length) :
    ∃ b off Ad cd, A = some ⟨b, off, none⟩ ∧ b < w.heap.size ∧ (inI l[i].key ∧ inI l[i].off) ∧ w.cell? ⟨b, off + i * 4, none⟩ = some (.int .i64 l[i].key) ∧ w.cell? ⟨b, off + i * 4 + 1, none⟩ = some (.int .i64 l[i].off) ∧
      w.cell? ⟨b, off + i * 4 + 2, none⟩ = some (.slice Ad l[i].piece.length cd) ∧ w.cell? ⟨b, off + i * 4 + 3, none⟩ = some (.bool l[i].last) ∧ Bys w (.slice Ad l[i].piece.length cd) l[i].piece := by
  obtain ⟨cs, hr, he⟩ := h
  obtain ⟨-, -, -, b, off, rfl, hb, hc⟩ := hr.at_ (by omega)
  obtain ⟨hok, h0, h1, ⟨u, hu, hs⟩, h3⟩ := he i hi
  have hs' := hs
  obtain ⟨Ad, cd, rfl, _⟩ := hs.form
  exact ⟨b, off, Ad, cd, rfl, hb, hok, hc _ _ h0, hc _ _ h1, hc _ _ hu, hc _ _ h3, hs'⟩

theorem putK_len {key0 : Int} {h : List UInt8} {key off : Int} {p : List UInt8} {last : Bool} (hh : h.length ≤ 1048576) : (putK key0 h key off p last).hav.length ≤ 1048576 := by
  unfold putK
  by_cases c1 : off ≠ 0 ∧ (key ≠ key0 ∨ off ≠ h.length)
  · rw [if_pos c1]; exact hh
  · rw [if_neg c1]
    by_cases c2 : 1048576 < (if off = 0 then 0 else h.length) + p.length
    · rw [if_pos c2]; exact hh
    · rw [if_neg c2]
      cases last
      · rw [if_neg (by decide)]
        show ((if off = 0 then [] else h) ++ p).length ≤ 1048576
        rw [List.length_append]
        by_cases h0 : off = 0
        · rw [if_pos h0] at c2 ⊢; simp only [List.length_nil]; omega
        · rw [if_neg h0] at c2 ⊢; omega
      · rw [if_pos rfl]; exact Nat.zero_le _
theorem putK_key {key0 : Int} {h : List UInt8} {key off : Int} {p : List UInt8} {last : Bool} (h0 : inI key0) (hk : inI key) : inI (putK key0 h key off p last).key := by
  unfold putK
  by_cases c1 : off ≠ 0 ∧ (key ≠ key0 ∨ off ≠ h.length)
  · rw [if_pos c1]; exact h0
  · rw [if_neg c1]
    by_cases c2 : 1048576 < (if off = 0 then 0 else h.length) + p.length
    · rw [if_pos c2]; exact h0
    · rw [if_neg c2]
      cases last
      · exact hk
      · exact hk

set_option maxHeartbeats 16000000 in
theorem puts_true (C : ConK) (A : Option Addr) (m c : Nat) (l : List Pt) (w : World) (h : Parts w (.slice A m c) l) :
    Calls Try.prog 3 #[.slice A m c] w fun y w' => y = .returned (.bool true) ∧ Below w.heap.size w w' := by
  obtain ⟨A1, c1, hv, hmc, hcm⟩ := h.form
  injection hv with e1 e2 e3
  subst e1; subst e3
  have im : (m : Int) ≤ 9223372036854775807 := by omega
  have HH := Lib.hid (And.intro h e2)
  obtain ⟨W2, gx, gr, hW2, hgx, hgr, hb2, e0, e1⟩ := two_boxes w (.cells #[.int .i64 0, .slice none 0 0] 25) (.cells #[.int .i64 0, .slice none 0 0] 26)
  have HW := Lib.hid (And.intro hW2 (And.intro hgx hgr))
  have HE := Lib.hid (And.intro hb2 (And.intro e0 e1))
  clear h hmc hcm e2 hW2 hgx hgr hb2 e0 e1
  go_enter Try.func3, Try.ntmps3
  go_upto_region 2 with fail
  rw [← HW.out.1, ← HW.out.2.1, ← HW.out.2.2]
  go_wp2_with fail
  go_loopw [5] (fun ii wr => ∃ (i : Nat) (key : Int) (hv : List UInt8) (Ax : Option Addr) (cx : Nat) (Ar : Option Addr) (cr : Nat), i ≤ 40 ∧ i ≤ m ∧ ii = .int .i64 (i : Int) ∧ inI key ∧ hv.length ≤ 1048576 ∧
      wr.heap[gx]? = some (.cells #[.int .i64 key, .slice Ax hv.length cx] 25 (0, 0)) ∧ wr.heap[gr]? = some (.cells #[.int .i64 key, .slice Ar hv.length cr] 26 (0, 0)) ∧
      SlT wr (fun q => q < wr.heap.size ∧ (q ≠ gx ∧ q ≠ gr)) (.slice Ax hv.length cx) hv ∧ SlT wr (fun q => q < wr.heap.size ∧ (q ≠ gx ∧ q ≠ gr)) (.slice Ar hv.length cr) hv ∧ Below w.heap.size w wr) (fun ii _ => 40 - (intOf ii).toNat)
  case atStart => exact ⟨0, 0, [], none, 0, none, 0, by omega, by omega, rfl, by unfold inI; decide, by decide, HE.out.2.1, HE.out.2.2, SlT.nil_ _ _, SlT.nil_ _ _, HE.out.1⟩
  case round =>
    obtain ⟨i, key0, hv, Ax, cx, Ar, cr, hi, him, rfl, hk0, hvl, hqx, hqr, hsx, hsr, hbw⟩ := hrel
    obtain ⟨nv, hnv⟩ : ∃ n, n = hv.length := ⟨_, rfl⟩
    rw [← hnv] at hvl hqx hqr hsx hsr
    have HNV := Lib.hid hnv
    have HR := Lib.hid (And.intro hbw (And.intro hqx (And.intro hqr (And.intro hsx (And.intro hsr (And.intro hk0 hvl))))))
    obtain ⟨x0, x1, -⟩ := cells2 hqx
    have ii0 : (0 : Int) ≤ (i : Int) := by omega
    clear hk0 hvl hqx hqr hsx hsr hbw hnv
    by_cases hlt : i < m ∧ i < 40
    · obtain ⟨hlt1, hlt2⟩ := hlt
      have i1 : (i : Int) < (m : Int) := by omega
      have i2 : (i : Int) < 40 := by omega
      obtain ⟨b, off, Ap, cp, rfl, hbb, hok, q0, q1, q2, q3, hsp⟩ := HH.out.1.at_ i (by have := HH.out.2; omega)
      obtain ⟨pt, hpt⟩ : ∃ pt, pt = l[i]'(by have := HH.out.2; omega) := ⟨_, rfl⟩
      rw [← hpt] at hok q0 q1 q2 q3 hsp
      obtain ⟨np, hnp⟩ : ∃ n, n = pt.piece.length := ⟨_, rfl⟩
      rw [← hnp] at q2 hsp
      have p0 := (HR.out.1.cell (p := ⟨b, off + i * 4, none⟩) hbb).trans q0
      have p1 := (HR.out.1.cell (p := ⟨b, off + i * 4 + 1, none⟩) hbb).trans q1
      have p2 := (HR.out.1.cell (p := ⟨b, off + i * 4 + 2, none⟩) hbb).trans q2
      have p3 := (HR.out.1.cell (p := ⟨b, off + i * 4 + 3, none⟩) hbb).trans q3
      have HP := Lib.hid (And.intro hok hsp)
      clear hbb hok q0 q1 q2 q3 hsp hpt hnp
      go_upto_region 6 with fail
      have hb1 := below_alloc wr (.cells #[.int .i64 pt.key, .int .i64 pt.off, .slice Ap np cp, .bool pt.last] 28)
      have hqp := heap_alloc_new wr (.cells #[.int .i64 pt.key, .int .i64 pt.off, .slice Ap np cp, .bool pt.last] 28)
      obtain ⟨W1, hW1⟩ : ∃ W, W = wr.alloc (.cells #[.int .i64 pt.key, .int .i64 pt.off, .slice Ap np cp, .bool pt.last] 28) := ⟨_, rfl⟩
      obtain ⟨gp, hgp⟩ : ∃ g, g = wr.heap.size := ⟨_, rfl⟩
      rw [← hW1] at hb1 hqp ⊢
      rw [← hgp] at hqp ⊢
      have H1 := Lib.hid (And.intro hb1 hqp)
      clear x0 x1 p0 p1 p2 p3 hW1 hgp hqp
      obtain ⟨y0, y1, y2, y3, -⟩ := cells4 H1.out.2
      obtain ⟨x0, x1, -⟩ := cells2 ((hb1.block gx (obj_lt HR.out.2.1)).trans HR.out.2.1)
      clear hb1
      by_cases hlong : 10000 < np
      · have il : 10000 < (np : Int) := by omega
        go_wp2_with fail
        go_roundw
        case rel =>
          have hk := H1.out.1
          exact ⟨i + 1, key0, hv, Ax, cx, Ar, cr, by omega, by omega, by go_num, HR.out.2.2.2.2.2.1, by rw [← HNV.out]; exact HR.out.2.2.2.2.2.2, by rw [← HNV.out]; exact (hk.block gx (obj_lt HR.out.2.1)).trans HR.out.2.1, by rw [← HNV.out]; exact (hk.block gr (obj_lt HR.out.2.2.1)).trans HR.out.2.2.1, by rw [← HNV.out]; exact (SlT.kept HR.out.2.2.2.1 fun q hq _ => hk.block q hq.1).mono fun q hq => ⟨Nat.lt_of_lt_of_le hq.1 hk.size, hq.2⟩, by rw [← HNV.out]; exact (SlT.kept HR.out.2.2.2.2.1 fun q hq _ => hk.block q hq.1).mono fun q hq => ⟨Nat.lt_of_lt_of_le hq.1 hk.size, hq.2⟩, HR.out.1.trans (hk.mono HR.out.1.size)⟩
        case measure => simp [intOf]; omega
      · have il : ¬ 10000 < (np : Int) := by omega
        have HL := Lib.hid (show np ≤ 10000 by omega)
        clear hlong
        obtain ⟨r, hr⟩ : ∃ r, r = putK key0 hv pt.key pt.off pt.piece pt.last := ⟨_, rfl⟩
        have HRK := Lib.hid (show inI r.key ∧ r.hav.length ≤ 1048576 by rw [hr]; exact ⟨putK_key HR.out.2.2.2.2.2.1 HP.out.1.1, putK_len (by rw [← HNV.out]; exact HR.out.2.2.2.2.2.2)⟩)
        obtain ⟨n2, hn2⟩ : ∃ n, n = r.hav.length := ⟨_, rfl⟩
        obtain ⟨nt, hnt⟩ : ∃ n, n = r.txt.length := ⟨_, rfl⟩
        have hbp : Bys W1 (.slice Ap np cp) pt.piece := HP.out.2.below (HR.out.1.trans (H1.out.1.mono HR.out.1.size))
        have CP := Lib.hid (C.cPut key0 Ax nv cx hv pt.key pt.off Ap np cp pt.piece pt.last W1 (SlT.mono (SlT.kept HR.out.2.2.2.1 fun q hq _ => H1.out.1.block q hq.1) fun q hq => Nat.lt_of_lt_of_le hq.1 H1.out.1.size) hbp HR.out.2.2.2.2.2.2 HL.out HR.out.2.2.2.2.2.1 HP.out.1.1 HP.out.1.2 r hr)
        have CR := Lib.hid fun (W : World) (hW : Below W1.heap.size W1 W) => PutR_any key0 Ar nv cr hv pt.key pt.off Ap np cp pt.piece pt.last W (fun q => q ≠ gx ∧ q ≠ gr) ((SlT.kept (SlT.kept HR.out.2.2.2.2.1 fun q hq _ => H1.out.1.block q hq.1) fun q hq _ => hW.block q (Nat.lt_of_lt_of_le hq.1 H1.out.1.size)).mono fun q hq => ⟨Nat.lt_of_lt_of_le (Nat.lt_of_lt_of_le hq.1 H1.out.1.size) hW.size, hq.2⟩) (hbp.below hW) HR.out.2.2.2.2.2.2 HL.out r hr
        simp only [← hn2, ← hnt] at CP CR
        have HN2 := Lib.hid hn2
        clear hr hn2 hnt hbp
        go_upto_region 8 with (go_at_call 7; go_must (refine CP.out.mono ?_; rintro y w5 ⟨Aa, ca, At, ct, rfl, hia, hit, hb5⟩; have HA := Lib.hid (And.intro hia (And.intro hit hb5)); clear hia hit hb5))
        have hb6 := HA.out.2.2.alloc HA.out.2.2.size (.cells #[.int .i64 r.key, .slice Aa n2 ca] 25)
        have hqa := heap_alloc_new w5 (.cells #[.int .i64 r.key, .slice Aa n2 ca] 25)
        have hia6 : SlT (w5.alloc (.cells #[.int .i64 r.key, .slice Aa n2 ca] 25)) (fun q => W1.heap.size ≤ q ∧ q < w5.heap.size) (.slice Aa n2 ca) r.hav := SlT.kept HA.out.1 fun q hq hl => heap_alloc_old _ _ hl
        have hit6 : Bys (w5.alloc (.cells #[.int .i64 r.key, .slice Aa n2 ca] 25)) (.slice At nt ct) r.txt := HA.out.2.1.below (below_alloc w5 _)
        have hsz6 : w5.heap.size ≤ (w5.alloc (.cells #[.int .i64 r.key, .slice Aa n2 ca] 25)).heap.size := by rw [World.size_alloc]; omega
        obtain ⟨W6, hW6⟩ : ∃ W, W = w5.alloc (.cells #[.int .i64 r.key, .slice Aa n2 ca] 25) := ⟨_, rfl⟩
        obtain ⟨ga, hga⟩ : ∃ g, g = w5.heap.size := ⟨_, rfl⟩
        rw [← hW6] at hb6 hqa hia6 hit6 hsz6 ⊢
        rw [← hga] at hqa ⊢
        have hge : W1.heap.size ≤ ga := by rw [hga]; exact HA.out.2.2.size
        have H6 := Lib.hid (And.intro hb6 (And.intro hqa (And.intro (hia6.mono fun q hq => (show q < W6.heap.size ∧ W1.heap.size ≤ q from ⟨Nat.lt_of_lt_of_le hq.2 hsz6, hq.1⟩)) (And.intro hit6 hge))))
        clear hqa hia6 hit6 hW6 hga hsz6 hge x0 x1 y0 y1 y2 y3
        obtain ⟨x0, x1, -⟩ := cells2 ((hb6.block gr (Nat.lt_of_lt_of_le (obj_lt HR.out.2.2.1) H1.out.1.size)).trans ((H1.out.1.block gr (obj_lt HR.out.2.2.1)).trans HR.out.2.2.1))
        obtain ⟨y0, y1, y2, y3, -⟩ := cells4 ((hb6.block gp (obj_lt H1.out.2)).trans H1.out.2)
        clear hb6
        go_upto_region 9 with (go_at_call 8; go_must (refine (CR.out _ H6.out.1).mono ?_; rintro y w7 ⟨Ac, cc, Au, cu, rfl, hic, hiu, hb7⟩; have HC := Lib.hid (And.intro hic (And.intro hiu hb7)); clear hic hiu hb7))
        have hb8 : Below W6.heap.size W6 (w7.alloc (.cells #[.int .i64 r.key, .slice Ac n2 cc] 26)) := HC.out.2.2.alloc HC.out.2.2.size _
        have hqc := heap_alloc_new w7 (.cells #[.int .i64 r.key, .slice Ac n2 cc] 26)
        have hic8 : SlT (w7.alloc (.cells #[.int .i64 r.key, .slice Ac n2 cc] 26)) (fun q => q < w7.heap.size ∧ ((q ≠ gx ∧ q ≠ gr) ∨ W6.heap.size ≤ q)) (.slice Ac n2 cc) r.hav := SlT.kept HC.out.1 fun q hq hl => heap_alloc_old _ _ hl
        have hia8 : SlT (w7.alloc (.cells #[.int .i64 r.key, .slice Ac n2 cc] 26)) (fun q => q < W6.heap.size ∧ W1.heap.size ≤ q) (.slice Aa n2 ca) r.hav := SlT.kept H6.out.2.2.1 fun q hq hl => hb8.block q hl
        have v1 := conv_bytes (Bys.sl_ (hia8.mono fun q hq => (show q < (w7.alloc (.cells #[.int .i64 r.key, .slice Ac n2 cc] 26)).heap.size from Nat.lt_of_lt_of_le hq.1 hb8.size)))
        have v2 := conv_bytes (H6.out.2.2.2.1.below hb8).sl_
        have v3 := conv_bytes (Bys.sl_ (hic8.mono fun q hq => (show q < (w7.alloc (.cells #[.int .i64 r.key, .slice Ac n2 cc] 26)).heap.size from by rw [World.size_alloc]; have := hq.1; omega)))
        have v4 := conv_bytes (HC.out.2.1.below (below_alloc w7 (.cells #[.int .i64 r.key, .slice Ac n2 cc] 26))).sl_
        have hsz8 : w7.heap.size ≤ (w7.alloc (.cells #[.int .i64 r.key, .slice Ac n2 cc] 26)).heap.size := by rw [World.size_alloc]; omega
        obtain ⟨W8, hW8⟩ : ∃ W, W = w7.alloc (.cells #[.int .i64 r.key, .slice Ac n2 cc] 26) := ⟨_, rfl⟩
        obtain ⟨gc, hgc⟩ : ∃ g, g = w7.heap.size := ⟨_, rfl⟩
        rw [← hW8] at hb8 hqc hic8 hia8 v1 v2 v3 v4 hsz8 ⊢
        rw [← hgc] at hqc ⊢
        have hgc2 : W6.heap.size ≤ gc := by rw [hgc]; exact HC.out.2.2.size
        have hxl : gx < W1.heap.size := Nat.lt_of_lt_of_le (obj_lt HR.out.2.1) H1.out.1.size
        have hrl : gr < W1.heap.size := Nat.lt_of_lt_of_le (obj_lt HR.out.2.2.1) H1.out.1.size
        have qx : W8.heap[gx]? = _ := (hb8.block gx (Nat.lt_of_lt_of_le hxl H6.out.1.size)).trans ((H6.out.1.block gx hxl).trans ((H1.out.1.block gx (obj_lt HR.out.2.1)).trans HR.out.2.1))
        have qr : W8.heap[gr]? = _ := (hb8.block gr (Nat.lt_of_lt_of_le hrl H6.out.1.size)).trans ((H6.out.1.block gr hrl).trans ((H1.out.1.block gr (obj_lt HR.out.2.2.1)).trans HR.out.2.2.1))
        have qa := (hb8.block ga (obj_lt H6.out.2.1)).trans H6.out.2.1
        have hb18 := HR.out.1.trans (((H1.out.1.trans (H6.out.1.mono H1.out.1.size)).trans (hb8.mono (Nat.le_trans H1.out.1.size H6.out.1.size))).mono HR.out.1.size)
        have hs1 : SlT W8 (fun q => q < W8.heap.size ∧ (q ≠ gx ∧ q ≠ gr)) (.slice Aa n2 ca) r.hav := hia8.mono fun q hq => ⟨Nat.lt_of_lt_of_le hq.1 hb8.size, by have := hq.2; omega, by have := hq.2; omega⟩
        have hs2 : SlT W8 (fun q => q < W8.heap.size ∧ (q ≠ gx ∧ q ≠ gr)) (.slice Ac n2 cc) r.hav := hic8.mono fun q hq => ⟨Nat.lt_of_lt_of_le hq.1 hsz8, by
          rcases hq.2 with h | h
          · exact h
          · have := H6.out.1.size; exact ⟨by omega, by omega⟩⟩
        have hne : ga ≠ gx ∧ ga ≠ gr ∧ gc ≠ gx ∧ gc ≠ gr := by have := H6.out.2.2.2.2; have := H6.out.1.size; exact ⟨by omega, by omega, by omega, by omega⟩
        have H8 := Lib.hid (And.intro hb18 (And.intro qx (And.intro qr (And.intro qa (And.intro hqc (And.intro hs1 (And.intro hs2 hne)))))))
        clear x0 x1 y0 y1 y2 y3 hic8 hia8 hsz8 hW8 hgc hgc2 hxl hrl hb8 hb18 hs1 hs2 hne
        obtain ⟨a4, a5, -⟩ := cells2 qa
        obtain ⟨a6, a7, -⟩ := cells2 hqc
        clear qx qr qa hqc
        go_upto_region 11 with fail
        have HXR := Lib.hid (show gx ≠ gr by have := HW.out.2.2; omega)
        have hd0 : W8.drew.heap[ga]? = some (.cells #[.int .i64 r.key, .slice Aa n2 ca] 25 (0, 0)) ∧ W8.drew.heap[gc]? = some (.cells #[.int .i64 r.key, .slice Ac n2 cc] 26 (0, 0)) := ⟨H8.out.2.2.2.1, H8.out.2.2.2.2.1⟩
        refine wp_region_held_drew (S := fun W => W.heap[ga]? = some (.cells #[.int .i64 r.key, .slice Aa n2 ca] 25 (0, 0)) ∧ W.heap[gc]? = some (.cells #[.int .i64 r.key, .slice Ac n2 cc] 26 (0, 0))) (by kernel_rfl) hd0 (fun hHeld => ?_)
        clear hd0 a4 a5 a6 a7 v1 v2 v3 v4
        refine wpAnyH_take (i := 0) (oi := { dst := Option.some 96, op := Op.load 25 (Operand.tmp 7), type := 25, pos := "law.go:63", after := #[], guard := Option.none }) (v := .agg #[.int .i64 r.key, .slice Aa n2 ca]) rfl (by kernel_rfl) (by kernel_rfl) (by kernel_rfl) (fun _ _ _ h => h) (Or.inl ⟨by rfl, ?_⟩) hHeld ?_
        · intro W hSw
          obtain ⟨z0, z1, -⟩ := cells2 hSw.1; obtain ⟨z2, z3, -⟩ := cells2 hSw.2
          go_simp
        simp only [Act.put, List.setIfInBounds_toArray, List.set_cons_zero, List.set_cons_succ]
        refine wpAnyH_take (i := 1) (oi := { dst := Option.some 97, op := Op.load 26 (Operand.tmp 11), type := 26, pos := "law.go:63", after := #[{ on := 2, ground := Ground.gcOnly Departure.lateStores }], guard := Option.none }) (v := .agg #[.int .i64 r.key, .slice Ac n2 cc]) rfl (by kernel_rfl) (by kernel_rfl) (by kernel_rfl) (fun _ _ _ h => h) (Or.inl ⟨by rfl, ?_⟩) hHeld ?_
        · intro W hSw
          obtain ⟨z0, z1, -⟩ := cells2 hSw.1; obtain ⟨z2, z3, -⟩ := cells2 hSw.2
          go_simp
        simp only [Act.put, List.setIfInBounds_toArray, List.set_cons_zero, List.set_cons_succ]
        refine wpAnyH_ready (rs := [2]) (by kernel_rfl) (by simp) ?_
        refine AllReadyH.cons (o := { dst := Option.none, op := Op.store 25 (Operand.tmp 3) (Operand.tmp 96), type := 0, pos := "law.go:63", after := #[{ on := 0, ground := Ground.data }, { on := 0, ground := Ground.phase }, { on := 1, ground := Ground.textOnly Departure.lateStores }], guard := Option.none }) rfl (fun K hK => ?_) AllReadyH.nil
        focus
          obtain ⟨z0, z1, z2⟩ := cells2 (show W8.heap[gx]? = _ from H8.out.2.1)
          have f0 := z2 0
          have f1 := z2 1
          clear z2
          go_simp
          have k1 : ((W8.setCell ⟨gx, 0, none⟩ (.int .i64 r.key)).setCell ⟨gx, 1, none⟩ (.slice Aa n2 ca)).drew.heap[gx]? = _ := put2 (w := W8) (show W8.heap[gx]? = _ from H8.out.2.1) (.int .i64 r.key) (.slice Aa n2 ca)
          have k2 : ((W8.setCell ⟨gx, 0, none⟩ (.int .i64 r.key)).setCell ⟨gx, 1, none⟩ (.slice Aa n2 ca)).drew.heap[gr]? = _ := (put2_other W8 gx (.int .i64 r.key) (.slice Aa n2 ca) gr (HXR.out.symm)).trans (show W8.heap[gr]? = _ from H8.out.2.2.1)
          have k3 : ((W8.setCell ⟨gx, 0, none⟩ (.int .i64 r.key)).setCell ⟨gx, 1, none⟩ (.slice Aa n2 ca)).drew.heap[ga]? = _ := (put2_other W8 gx (.int .i64 r.key) (.slice Aa n2 ca) ga H8.out.2.2.2.2.2.2.2.1).trans (show W8.heap[ga]? = _ from H8.out.2.2.2.1)
          have k4 : ((W8.setCell ⟨gx, 0, none⟩ (.int .i64 r.key)).setCell ⟨gx, 1, none⟩ (.slice Aa n2 ca)).drew.heap[gc]? = _ := (put2_other W8 gx (.int .i64 r.key) (.slice Aa n2 ca) gc H8.out.2.2.2.2.2.2.2.2.2.1).trans (show W8.heap[gc]? = _ from H8.out.2.2.2.2.1)
          have k5 : ∀ q, q ≠ gx → ((W8.setCell ⟨gx, 0, none⟩ (.int .i64 r.key)).setCell ⟨gx, 1, none⟩ (.slice Aa n2 ca)).drew.heap[q]? = W8.heap[q]? := put2_other W8 gx (.int .i64 r.key) (.slice Aa n2 ca)
          have k6 : ((W8.setCell ⟨gx, 0, none⟩ (.int .i64 r.key)).setCell ⟨gx, 1, none⟩ (.slice Aa n2 ca)).drew.heap.size = W8.heap.size := by show (World.setCell _ _ _).heap.size = _; rw [World.size_setCell, World.size_setCell]
          have k7 : Below w.heap.size w ((W8.setCell ⟨gx, 0, none⟩ (.int .i64 r.key)).setCell ⟨gx, 1, none⟩ (.slice Aa n2 ca)).drew := ((H8.out.1.setCell (show w.heap.size ≤ gx by have := HW.out.2.1; have := HW.out.2.2; omega) _).setCell (show w.heap.size ≤ gx by have := HW.out.2.1; have := HW.out.2.2; omega) _).drew
          refine hK.out _ _ ⟨k3, k4⟩ (fun hHeld2 => ?_)
          clear hK K hHeld z0 z1 f0 f1
          obtain ⟨Wa, hWa⟩ : ∃ W, W = ((W8.setCell ⟨gx, 0, none⟩ (.int .i64 r.key)).setCell ⟨gx, 1, none⟩ (.slice Aa n2 ca)).drew := ⟨_, rfl⟩
          rw [← hWa] at k1 k2 k3 k4 k5 k6 k7 ⊢
          obtain ⟨z0, z1, z2⟩ := cells2 k2
          have f0 := z2 0
          have f1 := z2 1
          clear z2 hWa
          refine wpAnyH_ready (rs := [3]) (by kernel_rfl) (by simp) ?_
          refine AllReadyH.cons (o := { dst := Option.none, op := Op.store 26 (Operand.tmp 4) (Operand.tmp 97), type := 0, pos := "law.go:63", after := #[{ on := 1, ground := Ground.data }, { on := 2, ground := Ground.chain }, { on := 0, ground := Ground.phase }, { on := 1, ground := Ground.phase }, { on := 2, ground := Ground.phase }], guard := Option.none }) rfl (fun K hK => ?_) AllReadyH.nil
          go_simp
          have m1 := (put2_other Wa gr (.int .i64 r.key) (.slice Ac n2 cc) gx (Ne.symm (HXR.out.symm))).trans k1
          have m2 := put2 k2 (.int .i64 r.key) (.slice Ac n2 cc)
          have m3 := (put2_other Wa gr (.int .i64 r.key) (.slice Ac n2 cc) ga H8.out.2.2.2.2.2.2.2.2.1).trans k3
          have m4 := (put2_other Wa gr (.int .i64 r.key) (.slice Ac n2 cc) gc H8.out.2.2.2.2.2.2.2.2.2.2).trans k4
          have m5 := put2_other Wa gr (.int .i64 r.key) (.slice Ac n2 cc)
          have m6 : ((Wa.setCell ⟨gr, 0, none⟩ (.int .i64 r.key)).setCell ⟨gr, 1, none⟩ (.slice Ac n2 cc)).heap.size = W8.heap.size := by rw [World.size_setCell, World.size_setCell, k6]
          have m7 : Below w.heap.size w ((Wa.setCell ⟨gr, 0, none⟩ (.int .i64 r.key)).setCell ⟨gr, 1, none⟩ (.slice Ac n2 cc)) := (k7.setCell (show w.heap.size ≤ gr by have := HW.out.2.1; have := HW.out.2.2; omega) _).setCell (show w.heap.size ≤ gr by have := HW.out.2.1; have := HW.out.2.2; omega) _
          refine hK.out _ _ ⟨m3, m4⟩ (fun hHeld => ?_)
          clear hK K hHeld hHeld2 z0 z1 f0 f1
          have m8 : ∀ q, q ≠ gx → q ≠ gr → ((Wa.setCell ⟨gr, 0, none⟩ (.int .i64 r.key)).setCell ⟨gr, 1, none⟩ (.slice Ac n2 cc)).heap[q]? = W8.heap[q]? := fun q h1 h2 => (m5 q h2).trans (k5 q h1)
          obtain ⟨W9, hW9⟩ : ∃ W, W = ((Wa.setCell ⟨gr, 0, none⟩ (.int .i64 r.key)).setCell ⟨gr, 1, none⟩ (.slice Ac n2 cc)) := ⟨_, rfl⟩
          rw [← hW9] at m1 m2 m6 m7 m8 ⊢
          have hX := (show W9.heap[gx]? = _ from m1)
          have hR := (show W9.heap[gr]? = _ from m2)
          have H9 := Lib.hid (And.intro hX (And.intro hR (And.intro m6 (And.intro m7 m8))))
          clear m1 m2 m3 m4 m5 m6 m7 m8 k1 k2 k3 k4 k5 k6 k7 hX hR hW9
        all_goals
          refine wpAnyH_done (by kernel_rfl) ?_ _
          go_wp2_with fail
          go_roundw
          case rel =>
            exact ⟨i + 1, r.key, r.hav, Aa, ca, Ac, cc, by omega, by omega, by go_num, HRK.out.1, HRK.out.2, by rw [← HN2.out]; exact H9.out.1, by rw [← HN2.out]; exact H9.out.2.1, by rw [← HN2.out]; exact (SlT.kept H8.out.2.2.2.2.2.1 fun q hq _ => H9.out.2.2.2.2 q hq.2.1 hq.2.2).mono fun q hq => ⟨by rw [H9.out.2.2.1]; exact hq.1, hq.2⟩, by rw [← HN2.out]; exact (SlT.kept H8.out.2.2.2.2.2.2.1 fun q hq _ => H9.out.2.2.2.2 q hq.2.1 hq.2.2).mono fun q hq => ⟨by rw [H9.out.2.2.1]; exact hq.1, hq.2⟩, H9.out.2.2.2.1⟩
          case measure => simp [intOf]; omega
    · have hg : (¬ (i : Int) < (m : Int)) ∨ ((i : Int) < (m : Int) ∧ ¬ (i : Int) < 40) := by omega
      clear hlt
      rcases hg with hg | ⟨hg1, hg2⟩
      all_goals
        go_wp2_with (go_at_call 9; go_must (refine (sureK C _).mono ?_; rintro y w1 ⟨rfl, hb1⟩; have HB := Lib.hid (HR.out.1.trans (hb1.mono HR.out.1.size)); clear hb1))
        go_ret
        exact ⟨rfl, HB.out⟩

end Go.Proofs.Ytfdccdjfbdmblaa.pk
