/-
  The package pack's reader: making one, and what it tells.
-/
import Derived.Test.YteblpfnmcbehmaaDoorTake3
import Derived.Test.YteblpfnmcbehmaaDoorApp
namespace Go.Proofs.YteblpfnmcbehmaaDoor.pk
open Go Go.RowKit
set_option maxRecDepth 100000

/-- 'copied(b)': a row of the call's own with the same bytes. -/
theorem copied_any (A : Option Addr) (n c : Nat) (bs : List UInt8) (w : World) (B : Nat) (h : Sl w B (.slice A n c) bs) (hl : bs.length ≤ 140737488355328) :
    Calls Tryd.prog 33 #[.slice A n c] w fun x w' => ∃ v, x = .returned v ∧ w'.ownsRow w.heap.size 5 1 v bs.length (Lib.byteCells bs) ∧ Below w.heap.size w w' := by
  obtain ⟨i0, hi, hz0, hz1, hz2⟩ := info_parts info_u8
  have H := Lib.hid h
  clear h
  go_enter Tryd.func33, Tryd.ntmps33
  go_wp2_with (at_builtin; go_must (refine wpList_append_sl rfl _ _ 24 rfl w.heap.size 5 i0 _ Tryd.underlying24 hi hz0 hz1 hz2 rfl (.slice none 0 0) 0 [] rfl (World.ownsRow_nil _ _ _ _) B A n c bs rfl H.out (by omega) (Nat.le_refl _) ?_; intro v' w1 hown hgrow))
  go_ret
  refine ⟨v', rfl, by simpa using hown, (Below.refl _ _).grown hgrow (Nat.le_refl _) (by simp [Value.ownBlock])⟩

/-- A reader in block p: what is left, and the first error's number (0: none). -/
def RD (w : World) (p : Nat) (v : Value) (bs : List UInt8) (k : Nat) : Prop := w.heap[p]? = some (.cells #[v, ev k] 69 (0, 0)) ∧ Sl w p v bs

theorem RD.lt {w : World} {p : Nat} {v : Value} {bs : List UInt8} {k : Nat} (h : RD w p v bs k) : p < w.heap.size := by
  rcases Nat.lt_or_ge p w.heap.size with hlt | hge
  · exact hlt
  · have := h.1; rw [Array.getElem?_eq_none hge] at this; cases this
theorem RD.c0 {w : World} {p : Nat} {v : Value} {bs : List UInt8} {k : Nat} (h : RD w p v bs k) : w.cell? ⟨p, 0, none⟩ = some v := by
  rw [cell_of_row w p 0 _ _ (0, 0) h.1]; rfl
theorem RD.c1 {w : World} {p : Nat} {v : Value} {bs : List UInt8} {k : Nat} (h : RD w p v bs k) : w.cell? ⟨p, 1, none⟩ = some (ev k) := by
  rw [cell_of_row w p 1 _ _ (0, 0) h.1]; rfl
theorem RD.fz {w : World} {p : Nat} {v : Value} {bs : List UInt8} {k : Nat} (h : RD w p v bs k) (i : Nat) : w.frozen? ⟨p, i, none⟩ = false := by
  simp [World.frozen?, h.1]
theorem RD.below {w w' : World} {p B : Nat} {v : Value} {bs : List UInt8} {k : Nat} (h : RD w p v bs k) (hb : Below B w w') (hp : p < B) : RD w' p v bs k :=
  ⟨(hb.block p hp).trans h.1, h.2.below (hb.mono (by omega))⟩
theorem RD.set0 {w : World} {p : Nat} {v v' : Value} {bs bs' : List UInt8} {k : Nat} (h : RD w p v bs k) (hv : Sl w p v' bs') : RD (w.setCell ⟨p, 0, none⟩ v') p v' bs' k := by
  refine ⟨?_, hv.keep fun q hq => World.cell?_setCell_other w _ q v' (fun e => by subst e; simp at hq)⟩
  have := h.1
  simp [World.setCell, Array.getElem?_modify, this]
theorem RD.set1 {w : World} {p : Nat} {v : Value} {bs : List UInt8} {k k' : Nat} (h : RD w p v bs k) : RD (w.setCell ⟨p, 1, none⟩ (ev k')) p v bs k' := by
  refine ⟨?_, h.2.keep fun q hq => World.cell?_setCell_other w _ q _ (fun e => by subst e; simp at hq)⟩
  have := h.1
  simp [World.setCell, Array.getElem?_modify, this]

theorem grown_set {w : World} {p i : Nat} (u : Value) : w.grownBy (w.setCell ⟨p, i, none⟩ u) (some p) :=
  ⟨rfl, rfl, rfl, by simp [World.setCell], fun k _ hne => Below.heap_setCell w _ u k (fun e => hne (by rw [e]))⟩
theorem grown_trans {a b c : World} {row : Option Nat} (h : a.grownBy b row) (k : b.grownBy c row) : a.grownBy c row :=
  ⟨k.os.trans h.os, k.tape.trans h.tape, k.output.trans h.output, Nat.le_trans h.size k.size, fun i hi hne => (k.block i (Nat.lt_of_lt_of_le hi h.size) hne).trans (h.block i hi hne)⟩
theorem grown_below {w w' : World} (h : Below w.heap.size w w') (row : Option Nat) : w.grownBy w' row := ⟨h.os, h.tape, h.output, h.size, fun i hi _ => h.block i hi⟩

/-- 'Read(b)'. -/
theorem Read_any (A : Option Addr) (n c : Nat) (bs : List UInt8) (w : World) (B : Nat) (h : Sl w B (.slice A n c) bs) (hl : bs.length ≤ 140737488355328) :
    Calls Tryd.prog 13 #[.slice A n c] w fun x w' => ∃ p v, x = .returned (.pointer (some ⟨p, 0, none⟩)) ∧ w.heap.size ≤ p ∧ RD w' p v bs 0 ∧ Below w.heap.size w w' := by
  have c1 := Lib.hid (copied_any A n c bs w B h hl)
  clear h
  go_enter Tryd.func13, Tryd.ntmps13
  go_wp2_with fail
  refine c1.out.mono ?_
  rintro x w' ⟨v, rfl, hown, hb⟩
  have hS : Sl w' w'.heap.size v bs := Sl.of_own hown _ fun g hg => (hown.lt g hg).2
  obtain ⟨A', c', rfl, hrest⟩ := hS
  have HS := Lib.hid (show Sl w' w'.heap.size (.slice A' bs.length c') bs from ⟨A', c', rfl, hrest⟩)
  have HB := Lib.hid hb
  clear hown hb hrest
  go_wp2
  go_ret
  refine ⟨w'.heap.size, .slice A' bs.length c', rfl, HB.out.size, ⟨heap_alloc_new w' _, ?_⟩, HB.out.alloc HB.out.size _⟩
  exact HS.out.keep fun q hq => World.cell?_alloc_lt w' _ q hq

theorem stopped_no (p : Nat) (v : Value) (bs : List UInt8) (w : World) (h : RD w p v bs 0) :
    Calls Tryd.prog 34 #[.pointer (some ⟨p, 0, none⟩)] w fun x w' => x = .returned (.bool false) ∧ w = w' := by
  have hc : w.cell? ⟨p, 1, none⟩ = some .nilIface := h.c1
  clear h
  go_enter Tryd.func34, Tryd.ntmps34
  go_wp2
  go_ret
  exact ⟨rfl, rfl⟩
theorem ev_ne {k : Nat} (hk : k ≠ 0) : ev k = .iface 79 (.int .i64 (k : Int)) := by unfold ev; rw [if_neg hk]
theorem stopped_yes (p k : Nat) (v : Value) (bs : List UInt8) (w : World) (h : RD w p v bs k) (hk : k ≠ 0) :
    Calls Tryd.prog 34 #[.pointer (some ⟨p, 0, none⟩)] w fun x w' => x = .returned (.bool true) ∧ w = w' := by
  have hc := h.c1
  rw [ev_ne hk] at hc
  clear h hk
  go_enter Tryd.func34, Tryd.ntmps34
  go_wp2
  go_ret
  exact ⟨rfl, rfl⟩

theorem settle_ok (p n c : Nat) (A : Option Addr) (v : Value) (bs rest : List UInt8) (w : World) (h : RD w p v bs 0) (hv : Sl w p (.slice A n c) rest) :
    Calls Tryd.prog 36 #[.pointer (some ⟨p, 0, none⟩), .slice A n c, .nilIface] w fun x w' => x = .returned (.tuple #[]) ∧ RD w' p (.slice A n c) rest 0 ∧ w.grownBy w' (some p) := by
  have hc0 := h.c0
  have hf := h.fz 0
  have H := Lib.hid (h.set0 hv)
  obtain ⟨_, c0, rfl, _⟩ := h.2
  clear h hv
  go_enter Tryd.func36, Tryd.ntmps36
  go_wp2
  go_end0
  exact ⟨rfl, H.out, grown_set _⟩
theorem settle_err (p k : Nat) (v v1 : Value) (bs : List UInt8) (w : World) (h : RD w p v bs 0) (hk : k ≠ 0) :
    Calls Tryd.prog 36 #[.pointer (some ⟨p, 0, none⟩), v1, .iface 79 (.int .i64 (k : Int))] w fun x w' => x = .returned (.tuple #[]) ∧ RD w' p v bs k ∧ w.grownBy w' (some p) := by
  have hc1 : w.cell? ⟨p, 1, none⟩ = some .nilIface := h.c1
  have hf := h.fz 1
  have H := Lib.hid (h.set1 (k' := k))
  rw [ev_ne hk] at H
  clear h hk
  go_enter Tryd.func36, Tryd.ntmps36
  go_wp2
  refine bodyPost_ret (results_none rfl _ _ _) rfl ?_
  exact ⟨rfl, H.out, grown_set _⟩

theorem Uint_stop (p k : Nat) (most : Nat) (v : Value) (bs : List UInt8) (w : World) (h : RD w p v bs k) (hk : k ≠ 0) :
    Calls Tryd.prog 14 #[.pointer (some ⟨p, 0, none⟩), .int .u64 (most : Int)] w fun x w' => x = .returned (.int .u64 0) ∧ w = w' := by
  have c1 := Lib.hid (stopped_yes p k v bs w h hk)
  clear h hk
  go_enter Tryd.func14, Tryd.ntmps14
  go_wp2_with (go_at_call 34; refine c1.out.mono ?_; rintro x w' ⟨rfl, rfl⟩)
  go_ret
  exact ⟨rfl, rfl⟩
theorem Uint_ok (p : Nat) (most : Nat) (v : Value) (bs rest : List UInt8) (m : Nat) (w : World) (hs : Std w) (h : RD w p v bs 0) (hr : rdUint most bs = (0, m, rest)) :
    Calls Tryd.prog 14 #[.pointer (some ⟨p, 0, none⟩), .int .u64 (most : Int)] w fun x w' => ∃ v', x = .returned (.int .u64 (m : Int)) ∧ RD w' p v' rest 0 ∧ w.grownBy w' (some p) := by
  have hc0 := h.c0
  have hlt := h.lt
  have H := Lib.hid h
  have c1 := Lib.hid (stopped_no p v bs w h)
  have h2 := h.2
  have hB := Nat.le_of_lt hlt
  clear h
  obtain ⟨A, c, rfl, hx⟩ := h2
  have h2 : Sl w p (.slice A bs.length c) bs := ⟨A, c, rfl, hx⟩
  have c2 := Lib.hid (takeUint_ok A bs.length c most m bs rest w hs hB h2 hr)
  clear hr hx h2
  go_enter Tryd.func14, Tryd.ntmps14
  go_wp2_with (first
    | (go_at_call 34; refine c1.out.mono ?_; rintro x w' ⟨rfl, rfl⟩)
    | (go_at_call 35; refine c2.out.mono ?_; rintro x w1 ⟨A1, k1, rfl, h3, hb⟩; have H3 := Lib.hid h3; have HB := Lib.hid hb; clear h3 hb hc0)
    | (go_at_call 36; refine (settle_ok p _ _ _ _ bs rest _ (H.out.below HB.out hlt) H3.out).mono ?_; rintro x w2 ⟨rfl, h4, hg⟩; have H4 := Lib.hid h4; have HG := Lib.hid hg; clear h4 hg))
  go_ret
  exact ⟨_, rfl, H4.out, grown_trans (grown_below HB.out _) HG.out⟩
theorem Uint_err (p k : Nat) (most : Nat) (v : Value) (bs rest : List UInt8) (m : Nat) (w : World) (hs : Std w) (h : RD w p v bs 0) (hr : rdUint most bs = (k, m, rest)) (hk : k ≠ 0) :
    Calls Tryd.prog 14 #[.pointer (some ⟨p, 0, none⟩), .int .u64 (most : Int)] w fun x w' => x = .returned (.int .u64 0) ∧ RD w' p v bs k ∧ w.grownBy w' (some p) := by
  have hc0 := h.c0
  have hlt := h.lt
  have H := Lib.hid h
  have HK := Lib.hid hk
  have c1 := Lib.hid (stopped_no p v bs w h)
  have h2 := h.2
  have hB := Nat.le_of_lt hlt
  clear h
  obtain ⟨A, c, rfl, hx⟩ := h2
  have h2 : Sl w p (.slice A bs.length c) bs := ⟨A, c, rfl, hx⟩
  have c2 := Lib.hid (takeUint_err A bs.length c most k m bs rest w hs hB h2 hr hk)
  clear hr hk hx h2
  go_enter Tryd.func14, Tryd.ntmps14
  go_wp2_with (first
    | (go_at_call 34; refine c1.out.mono ?_; rintro x w' ⟨rfl, rfl⟩)
    | (go_at_call 35; refine c2.out.mono ?_; rintro x w1 ⟨rfl, hb⟩; have HB := Lib.hid hb; clear hb hc0)
    | (go_at_call 36; refine (settle_err p k _ _ bs _ (H.out.below HB.out hlt) HK.out).mono ?_; rintro x w2 ⟨rfl, h4, hg⟩; have H4 := Lib.hid h4; have HG := Lib.hid hg; clear h4 hg))
  go_ret
  exact ⟨rfl, H4.out, grown_trans (grown_below HB.out _) HG.out⟩

theorem Int_stop (p k : Nat) (v : Value) (bs : List UInt8) (w : World) (h : RD w p v bs k) (hk : k ≠ 0) :
    Calls Tryd.prog 15 #[.pointer (some ⟨p, 0, none⟩)] w fun x w' => x = .returned (.int .i64 0) ∧ w = w' := by
  have c1 := Lib.hid (stopped_yes p k v bs w h hk)
  clear h hk
  go_enter Tryd.func15, Tryd.ntmps15
  go_wp2_with (go_at_call 34; refine c1.out.mono ?_; rintro x w' ⟨rfl, rfl⟩)
  go_ret
  exact ⟨rfl, rfl⟩
theorem Int_ok (p : Nat) (v : Value) (bs rest : List UInt8) (m : Int) (w : World) (hs : Std w) (h : RD w p v bs 0) (hr : rdInt bs = (0, m, rest)) :
    Calls Tryd.prog 15 #[.pointer (some ⟨p, 0, none⟩)] w fun x w' => ∃ v', x = .returned (.int .i64 m) ∧ RD w' p v' rest 0 ∧ w.grownBy w' (some p) := by
  have hc0 := h.c0
  have hlt := h.lt
  have H := Lib.hid h
  have c1 := Lib.hid (stopped_no p v bs w h)
  have h2 := h.2
  have hB := Nat.le_of_lt hlt
  clear h
  obtain ⟨A, c, rfl, hx⟩ := h2
  have h2 : Sl w p (.slice A bs.length c) bs := ⟨A, c, rfl, hx⟩
  have c2 := Lib.hid (takeInt_ok A bs.length c m bs rest w hs hB h2 hr)
  clear hr hx h2
  go_enter Tryd.func15, Tryd.ntmps15
  go_wp2_with (first
    | (go_at_call 34; refine c1.out.mono ?_; rintro x w' ⟨rfl, rfl⟩)
    | (go_at_call 37; refine c2.out.mono ?_; rintro x w1 ⟨A1, k1, rfl, h3, hb⟩; have H3 := Lib.hid h3; have HB := Lib.hid hb; clear h3 hb hc0)
    | (go_at_call 36; refine (settle_ok p _ _ _ _ bs rest _ (H.out.below HB.out hlt) H3.out).mono ?_; rintro x w2 ⟨rfl, h4, hg⟩; have H4 := Lib.hid h4; have HG := Lib.hid hg; clear h4 hg))
  go_ret
  exact ⟨_, rfl, H4.out, grown_trans (grown_below HB.out _) HG.out⟩
theorem Int_err (p k : Nat) (v : Value) (bs rest : List UInt8) (m : Int) (w : World) (hs : Std w) (h : RD w p v bs 0) (hr : rdInt bs = (k, m, rest)) (hk : k ≠ 0) :
    Calls Tryd.prog 15 #[.pointer (some ⟨p, 0, none⟩)] w fun x w' => x = .returned (.int .i64 0) ∧ RD w' p v bs k ∧ w.grownBy w' (some p) := by
  have hc0 := h.c0
  have hlt := h.lt
  have H := Lib.hid h
  have HK := Lib.hid hk
  have c1 := Lib.hid (stopped_no p v bs w h)
  have h2 := h.2
  have hB := Nat.le_of_lt hlt
  clear h
  obtain ⟨A, c, rfl, hx⟩ := h2
  have h2 : Sl w p (.slice A bs.length c) bs := ⟨A, c, rfl, hx⟩
  have c2 := Lib.hid (takeInt_err A bs.length c k m bs rest w hs hB h2 hr hk)
  clear hr hk hx h2
  go_enter Tryd.func15, Tryd.ntmps15
  go_wp2_with (first
    | (go_at_call 34; refine c1.out.mono ?_; rintro x w' ⟨rfl, rfl⟩)
    | (go_at_call 37; refine c2.out.mono ?_; rintro x w1 ⟨rfl, hb⟩; have HB := Lib.hid hb; clear hb hc0)
    | (go_at_call 36; refine (settle_err p k _ _ bs _ (H.out.below HB.out hlt) HK.out).mono ?_; rintro x w2 ⟨rfl, h4, hg⟩; have H4 := Lib.hid h4; have HG := Lib.hid hg; clear h4 hg))
  go_ret
  exact ⟨rfl, H4.out, grown_trans (grown_below HB.out _) HG.out⟩

theorem Bool_stop (p k : Nat) (v : Value) (bs : List UInt8) (w : World) (h : RD w p v bs k) (hk : k ≠ 0) :
    Calls Tryd.prog 26 #[.pointer (some ⟨p, 0, none⟩)] w fun x w' => x = .returned (.bool false) ∧ w = w' := by
  have c1 := Lib.hid (stopped_yes p k v bs w h hk)
  clear h hk
  go_enter Tryd.func26, Tryd.ntmps26
  go_wp2_with (go_at_call 34; refine c1.out.mono ?_; rintro x w' ⟨rfl, rfl⟩)
  go_ret
  exact ⟨rfl, rfl⟩
theorem Bool_ok (p : Nat) (v : Value) (bs rest : List UInt8) (m : Bool) (w : World) (h : RD w p v bs 0) (hr : rdBool bs = (0, m, rest)) :
    Calls Tryd.prog 26 #[.pointer (some ⟨p, 0, none⟩)] w fun x w' => ∃ v', x = .returned (.bool m) ∧ RD w' p v' rest 0 ∧ w.grownBy w' (some p) := by
  have hc0 := h.c0
  have hlt := h.lt
  have H := Lib.hid h
  have c1 := Lib.hid (stopped_no p v bs w h)
  have h2 := h.2
  have hB := Nat.le_of_lt hlt
  clear h
  obtain ⟨A, c, rfl, hx⟩ := h2
  have h2 : Sl w p (.slice A bs.length c) bs := ⟨A, c, rfl, hx⟩
  have c2 := Lib.hid (takeBool_ok A bs.length c m bs rest w h2 hr)
  clear hr hx h2
  go_enter Tryd.func26, Tryd.ntmps26
  go_wp2_with (first
    | (go_at_call 34; refine c1.out.mono ?_; rintro x w' ⟨rfl, rfl⟩)
    | (go_at_call 45; refine c2.out.mono ?_; rintro x w1 ⟨A1, k1, rfl, h3, hb⟩; have H3 := Lib.hid h3; have HB := Lib.hid hb; clear h3 hb hc0)
    | (go_at_call 36; refine (settle_ok p _ _ _ _ bs rest _ (H.out.below HB.out hlt) H3.out).mono ?_; rintro x w2 ⟨rfl, h4, hg⟩; have H4 := Lib.hid h4; have HG := Lib.hid hg; clear h4 hg))
  go_ret
  exact ⟨_, rfl, H4.out, grown_trans (grown_below HB.out _) HG.out⟩
theorem Bool_err (p k : Nat) (v : Value) (bs rest : List UInt8) (m : Bool) (w : World) (h : RD w p v bs 0) (hr : rdBool bs = (k, m, rest)) (hk : k ≠ 0) :
    Calls Tryd.prog 26 #[.pointer (some ⟨p, 0, none⟩)] w fun x w' => x = .returned (.bool false) ∧ RD w' p v bs k ∧ w.grownBy w' (some p) := by
  have hc0 := h.c0
  have hlt := h.lt
  have H := Lib.hid h
  have HK := Lib.hid hk
  have c1 := Lib.hid (stopped_no p v bs w h)
  have h2 := h.2
  have hB := Nat.le_of_lt hlt
  clear h
  obtain ⟨A, c, rfl, hx⟩ := h2
  have h2 : Sl w p (.slice A bs.length c) bs := ⟨A, c, rfl, hx⟩
  have c2 := Lib.hid (takeBool_err A bs.length c k m bs rest w h2 hr hk)
  clear hr hk hx h2
  go_enter Tryd.func26, Tryd.ntmps26
  go_wp2_with (first
    | (go_at_call 34; refine c1.out.mono ?_; rintro x w' ⟨rfl, rfl⟩)
    | (go_at_call 45; refine c2.out.mono ?_; rintro x w1 ⟨rfl, hb⟩; have HB := Lib.hid hb; clear hb hc0)
    | (go_at_call 36; refine (settle_err p k _ _ bs _ (H.out.below HB.out hlt) HK.out).mono ?_; rintro x w2 ⟨rfl, h4, hg⟩; have H4 := Lib.hid h4; have HG := Lib.hid hg; clear h4 hg))
  go_ret
  exact ⟨rfl, H4.out, grown_trans (grown_below HB.out _) HG.out⟩

end Go.Proofs.YteblpfnmcbehmaaDoor.pk
