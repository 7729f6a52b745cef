import Derived.Test.YtncaefocijainaaGreatDoorG25
import Derived.Test.YtncaefocijainaaGreatDoorG32
import Derived.Test.YtncaefocijainaaGreatDoorG27
import Derived.Test.YtncaefocijainaaGreatDoorG30
namespace Go.Proofs.YtncaefocijainaaGreatDoor.pk
open Go Go.RowKit
set_option maxRecDepth 100000
section
def RD (w : World) (p : Nat) (v : Value) (bs : List UInt8) (k : Nat) : Prop := w.heap[p]? = some (.cells #[v, ev k] 234 (0, 0)) ∧ Sl w p v bs
theorem RD.lt {w : World} {p : Nat} {v : Value} {bs : List UInt8} {k : Nat} (h : RD w p v bs k) : p < w.heap.size := by
 rcases Nat.lt_or_ge p w.heap.size with hlt | hge
 · exact hlt
 · have := h.1; rw [Array.getElem?_eq_none hge] at this; cases this
theorem RD.c0 {w : World} {p : Nat} {v : Value} {bs : List UInt8} {k : Nat} (h : RD w p v bs k) : w.cell? ⟨p, 0, none⟩ = some v := by
 rw [cell_of_row w p 0 _ _ (0, 0) h.1]; rfl
theorem RD.c1 {w : World} {p : Nat} {v : Value} {bs : List UInt8} {k : Nat} (h : RD w p v bs k) : w.cell? ⟨p, 1, none⟩ = some (ev k) := by
 rw [cell_of_row w p 1 _ _ (0, 0) h.1]; rfl
theorem RD.fz {w : World} {p : Nat} {v : Value} {bs : List UInt8} {k : Nat} (h : RD w p v bs k) (i : Nat) : w.frozen? ⟨p, i, none⟩ = false := by
 simp [World.frozen?, h.1]
theorem RD.below {w w' : World} {p B : Nat} {v : Value} {bs : List UInt8} {k : Nat} (h : RD w p v bs k) (hb : Below B w w') (hp : p < B) : RD w' p v bs k :=
 ⟨(hb.block p hp).trans h.1, h.2.below (hb.mono (by omega))⟩
theorem RD.set0 {w : World} {p : Nat} {v v' : Value} {bs bs' : List UInt8} {k : Nat} (h : RD w p v bs k) (hv : Sl w p v' bs') : RD (w.setCell ⟨p, 0, none⟩ v') p v' bs' k := by
 refine ⟨?_, hv.keep fun q hq => World.cell?_setCell_other w _ q v' (fun e => by subst e; simp at hq)⟩
 have := h.1
 simp [World.setCell, Array.getElem?_modify, this]
theorem RD.set1 {w : World} {p : Nat} {v : Value} {bs : List UInt8} {k k' : Nat} (h : RD w p v bs k) : RD (w.setCell ⟨p, 1, none⟩ (ev k')) p v bs k' := by
 refine ⟨?_, h.2.keep fun q hq => World.cell?_setCell_other w _ q _ (fun e => by subst e; simp at hq)⟩
 have := h.1
 simp [World.setCell, Array.getElem?_modify, this]
theorem Read_any (A : Option Addr) (n c : Nat) (bs : List UInt8) (w : World) (B : Nat) (h : Sl w B (.slice A n c) bs) (hl : bs.length ≤ 140737488355328) :
   Calls Tryz.prog 113 #[.slice A n c] w fun x w' => ∃ p v, x = .returned (.pointer (some ⟨p, 0, none⟩)) ∧ w.heap.size ≤ p ∧ RD w' p v bs 0 ∧ Below w.heap.size w w' := by
 have c1 := jI (copied_any A n c bs w B h hl)
 clear h
 go_enter Tryz.func113, Tryz.ntmps113
 go_wp2_with fail
 refine c1.out.mono ?_
 rintro x w' ⟨v, rfl, hown, hb⟩
 have hS : Sl w' w'.heap.size v bs := Sl.of_own hown _ fun g hg => (hown.lt g hg).2
 obtain ⟨A', c', rfl, hrest⟩ := hS
 have HS := jI (show Sl w' w'.heap.size (.slice A' bs.length c') bs from ⟨A', c', rfl, hrest⟩)
 have HB := jI hb
 clear hown hb hrest
 go_wp2
 go_ret
 refine ⟨w'.heap.size, .slice A' bs.length c', rfl, HB.out.size, ⟨heap_alloc_new w' _, ?_⟩, HB.out.alloc HB.out.size _⟩
 exact HS.out.keep fun q hq => World.cell?_alloc_lt w' _ q hq
theorem stopped_no (p : Nat) (v : Value) (bs : List UInt8) (w : World) (h : RD w p v bs 0) :
   Calls Tryz.prog 140 #[.pointer (some ⟨p, 0, none⟩)] w fun x w' => x = .returned (.bool false) ∧ w = w' := by
 have hc : w.cell? ⟨p, 1, none⟩ = some .nilIface := h.c1
 clear h
 go_enter Tryz.func140, Tryz.ntmps140
 go_wp2
 go_ret
 exact ⟨rfl, rfl⟩
theorem ev_ne {k : Nat} (hk : k ≠ 0) : ev k = .iface 69 (.int .i64 (k : Int)) := by unfold ev; rw [if_neg hk]
theorem stopped_yes (p k : Nat) (v : Value) (bs : List UInt8) (w : World) (h : RD w p v bs k) (hk : k ≠ 0) :
   Calls Tryz.prog 140 #[.pointer (some ⟨p, 0, none⟩)] w fun x w' => x = .returned (.bool true) ∧ w = w' := by
 have hc := h.c1
 rw [ev_ne hk] at hc
 clear h hk
 go_enter Tryz.func140, Tryz.ntmps140
 go_wp2
 go_ret
 exact ⟨rfl, rfl⟩
theorem settle_ok (p n c : Nat) (A : Option Addr) (v : Value) (bs rest : List UInt8) (w : World) (h : RD w p v bs 0) (hv : Sl w p (.slice A n c) rest) :
   Calls Tryz.prog 142 #[.pointer (some ⟨p, 0, none⟩), .slice A n c, .nilIface] w fun x w' => x = .returned (.tuple #[]) ∧ RD w' p (.slice A n c) rest 0 ∧ w.grownBy w' (some p) := by
 have hc0 := h.c0
 have hf := h.fz 0
 have H := jI (h.set0 hv)
 obtain ⟨_, c0, rfl, _⟩ := h.2
 clear h hv
 go_enter Tryz.func142, Tryz.ntmps142
 go_wp2
 go_end0
 exact ⟨rfl, H.out, grown_set _⟩
theorem settle_err (p k : Nat) (v v1 : Value) (bs : List UInt8) (w : World) (h : RD w p v bs 0) (hk : k ≠ 0) :
   Calls Tryz.prog 142 #[.pointer (some ⟨p, 0, none⟩), v1, .iface 69 (.int .i64 (k : Int))] w fun x w' => x = .returned (.tuple #[]) ∧ RD w' p v bs k ∧ w.grownBy w' (some p) := by
 have hc1 : w.cell? ⟨p, 1, none⟩ = some .nilIface := h.c1
 have hf := h.fz 1
 have H := jI (h.set1 (k' := k))
 rw [ev_ne hk] at H
 clear h hk
 go_enter Tryz.func142, Tryz.ntmps142
 go_wp2
 refine bodyPost_ret (results_none rfl _ _ _) rfl ?_
 exact ⟨rfl, H.out, grown_set _⟩
theorem Uint_stop (p k : Nat) (most : Nat) (v : Value) (bs : List UInt8) (w : World) (h : RD w p v bs k) (hk : k ≠ 0) :
   Calls Tryz.prog 126 #[.pointer (some ⟨p, 0, none⟩), .int .u64 (most : Int)] w fun x w' => x = .returned (.int .u64 0) ∧ w = w' := by
 have c1 := jI (stopped_yes p k v bs w h hk)
 clear h hk
 go_enter Tryz.func126, Tryz.ntmps126
 go_wp2_with (go_at_call 140; refine c1.out.mono ?_; rintro x w' ⟨rfl, rfl⟩)
 go_ret
 exact ⟨rfl, rfl⟩
theorem Uint_ok (p : Nat) (most : Nat) (v : Value) (bs rest : List UInt8) (m : Nat) (w : World) (hs : StdP w) (h : RD w p v bs 0) (hr : rdUint most bs = (0, m, rest)) :
   Calls Tryz.prog 126 #[.pointer (some ⟨p, 0, none⟩), .int .u64 (most : Int)] w fun x w' => ∃ v', x = .returned (.int .u64 (m : Int)) ∧ RD w' p v' rest 0 ∧ w.grownBy w' (some p) := by
 have hc0 := h.c0
 have hlt := h.lt
 have H := jI h
 have c1 := jI (stopped_no p v bs w h)
 have h2 := h.2
 have hB := Nat.le_of_lt hlt
 clear h
 obtain ⟨A, c, rfl, hx⟩ := h2
 have h2 : Sl w p (.slice A bs.length c) bs := ⟨A, c, rfl, hx⟩
 have c2 := jI (takeUint_ok A bs.length c most m bs rest w hs hB h2 hr)
 clear hr hx h2
 go_enter Tryz.func126, Tryz.ntmps126
 go_wp2_with (first
   | (go_at_call 140; refine c1.out.mono ?_; rintro x w' ⟨rfl, rfl⟩)
   | (go_at_call 141; refine c2.out.mono ?_; rintro x w1 ⟨A1, k1, rfl, h3, hb⟩; have H3 := jI h3; have HB := jI hb; clear h3 hb hc0)
   | (go_at_call 142; refine (settle_ok p _ _ _ _ bs rest _ (H.out.below HB.out hlt) H3.out).mono ?_; rintro x w2 ⟨rfl, h4, hg⟩; have H4 := jI h4; have HG := jI hg; clear h4 hg))
 go_ret
 exact ⟨_, rfl, H4.out, grown_trans (grown_below HB.out _) HG.out⟩
theorem Uint_err (p k : Nat) (most : Nat) (v : Value) (bs rest : List UInt8) (m : Nat) (w : World) (hs : StdP w) (h : RD w p v bs 0) (hr : rdUint most bs = (k, m, rest)) (hk : k ≠ 0) :
   Calls Tryz.prog 126 #[.pointer (some ⟨p, 0, none⟩), .int .u64 (most : Int)] w fun x w' => x = .returned (.int .u64 0) ∧ RD w' p v bs k ∧ w.grownBy w' (some p) := by
 have hc0 := h.c0
 have hlt := h.lt
 have H := jI h
 have HK := jI hk
 have c1 := jI (stopped_no p v bs w h)
 have h2 := h.2
 have hB := Nat.le_of_lt hlt
 clear h
 obtain ⟨A, c, rfl, hx⟩ := h2
 have h2 : Sl w p (.slice A bs.length c) bs := ⟨A, c, rfl, hx⟩
 have c2 := jI (takeUint_err A bs.length c most k m bs rest w hs hB h2 hr hk)
 clear hr hk hx h2
 go_enter Tryz.func126, Tryz.ntmps126
 go_wp2_with (first
   | (go_at_call 140; refine c1.out.mono ?_; rintro x w' ⟨rfl, rfl⟩)
   | (go_at_call 141; refine c2.out.mono ?_; rintro x w1 ⟨rfl, hb⟩; have HB := jI hb; clear hb hc0)
   | (go_at_call 142; refine (settle_err p k _ _ bs _ (H.out.below HB.out hlt) HK.out).mono ?_; rintro x w2 ⟨rfl, h4, hg⟩; have H4 := jI h4; have HG := jI hg; clear h4 hg))
 go_ret
 exact ⟨rfl, H4.out, grown_trans (grown_below HB.out _) HG.out⟩
end
section
theorem Sl.grown {w w' : World} {B p : Nat} {v : Value} {bs : List UInt8} (h : Sl w B v bs) (hg : w.grownBy w' (some p)) (hB : B ≤ p) (hs : B ≤ w.heap.size) : Sl w' B v bs :=
 h.keep fun q hq => World.cell?_of_block (hg.block q.block (by omega) (fun e => by injection e with e; omega))
theorem Bytes_stop (p k : Nat) (most : Int) (v : Value) (bs : List UInt8) (w : World) (h : RD w p v bs k) (hk : k ≠ 0) :
   Calls Tryz.prog 128 #[.pointer (some ⟨p, 0, none⟩), .int .i64 most] w fun x w' => x = .returned (.slice none 0 0) ∧ w = w' := by
 have c1 := jI (stopped_yes p k v bs w h hk)
 clear h hk
 go_enter Tryz.func128, Tryz.ntmps128
 go_wp2_with (go_at_call 140; refine c1.out.mono ?_; rintro x w' ⟨rfl, rfl⟩)
 go_ret
 exact ⟨rfl, rfl⟩
theorem Bytes_ok (p : Nat) (most : Int) (v : Value) (bs rest m : List UInt8) (w : World) (hs : StdP w) (hm : most ≤ 9223372036854775807) (h : RD w p v bs 0) (hr : rdBytes 98 most bs = (0, m, rest)) (hl : m.length ≤ 140737488355328) :
   Calls Tryz.prog 128 #[.pointer (some ⟨p, 0, none⟩), .int .i64 most] w fun x w' => ∃ v' u, x = .returned u ∧ SlT w' (fun q => w.heap.size ≤ q ∧ q < w'.heap.size) u m ∧ RD w' p v' rest 0 ∧ w.grownBy w' (some p) := by
 have hc0 := h.c0
 have hlt := h.lt
 have H := jI h
 have c1 := jI (stopped_no p v bs w h)
 have h2 := h.2
 have hB := Nat.le_of_lt hlt
 clear h
 obtain ⟨A, c, rfl, hx⟩ := h2
 have h2 : Sl w p (.slice A bs.length c) bs := ⟨A, c, rfl, hx⟩
 have c2 := jI (takeBytes_ok A bs.length c 98 most bs m rest w hs hm hB h2 hr)
 clear hr hx h2 hm
 go_enter Tryz.func128, Tryz.ntmps128
 go_wp2_with (first
   | (go_at_call 140; refine c1.out.mono ?_; rintro x w' ⟨rfl, rfl⟩)
   | (go_at_call 143; refine c2.out.mono ?_; rintro x w1 ⟨A1, k1, A2, k2, rfl, h3, h5, hb⟩; have H3 := jI h3; have H5 := jI h5; have HB := jI hb; clear h3 h5 hb hc0)
   | (go_at_call 142; refine (settle_ok p _ _ _ _ bs rest _ (H.out.below HB.out hlt) H5.out).mono ?_; rintro x w2 ⟨rfl, h4, hg⟩; have H4 := jI h4; have HG := jI hg; clear h4 hg)
   | (go_at_call 107; refine (copied_any _ _ _ m _ _ (H3.out.grown HG.out (Nat.le_refl _) (Nat.le_trans hB HB.out.size)) hl).mono ?_; rintro x w3 ⟨u, rfl, hown, hb3⟩; have HO := jI hown; have HB3 := jI hb3; clear hown hb3))
 go_ret
 exact ⟨_, u, rfl, SlT.of_own HO.out _ (fun g hg => ⟨Nat.le_trans (Nat.le_trans HB.out.size HG.out.size) (HO.out.lt g hg).1, (HO.out.lt g hg).2⟩), H4.out.below HB3.out H4.out.lt, grown_trans (grown_below HB.out _) (grown_trans HG.out (grown_below HB3.out _))⟩
theorem Bytes_err (p k : Nat) (most : Int) (v : Value) (bs rest m : List UInt8) (w : World) (hs : StdP w) (hm : most ≤ 9223372036854775807) (h : RD w p v bs 0) (hr : rdBytes 98 most bs = (k, m, rest)) (hk : k ≠ 0) :
   Calls Tryz.prog 128 #[.pointer (some ⟨p, 0, none⟩), .int .i64 most] w fun x w' => ∃ u, x = .returned u ∧ SlT w' (fun q => w.heap.size ≤ q ∧ q < w'.heap.size) u [] ∧ RD w' p v bs k ∧ w.grownBy w' (some p) := by
 have hc0 := h.c0
 have hlt := h.lt
 have H := jI h
 have HK := jI hk
 have c1 := jI (stopped_no p v bs w h)
 have h2 := h.2
 have hB := Nat.le_of_lt hlt
 clear h
 obtain ⟨A, c, rfl, hx⟩ := h2
 have h2 : Sl w p (.slice A bs.length c) bs := ⟨A, c, rfl, hx⟩
 have c2 := jI (takeBytes_err A bs.length c k 98 most bs m rest w hs hm hB h2 hr hk)
 clear hr hx h2 hm hk
 go_enter Tryz.func128, Tryz.ntmps128
 go_wp2_with (first
   | (go_at_call 140; refine c1.out.mono ?_; rintro x w' ⟨rfl, rfl⟩)
   | (go_at_call 143; refine c2.out.mono ?_; rintro x w1 ⟨rfl, hb⟩; have HB := jI hb; clear hb hc0)
   | (go_at_call 142; refine (settle_err p k _ _ bs _ (H.out.below HB.out hlt) HK.out).mono ?_; rintro x w2 ⟨rfl, h4, hg⟩; have H4 := jI h4; have HG := jI hg; clear h4 hg)
   | (go_at_call 107; refine (copied_any _ _ _ [] _ 0 (Sl.nil_ _ _) (by simp)).mono ?_; rintro x w3 ⟨u, rfl, hown, hb3⟩; have HO := jI hown; have HB3 := jI hb3; clear hown hb3))
 go_ret
 exact ⟨u, rfl, SlT.of_own HO.out _ (fun g hg => ⟨Nat.le_trans (Nat.le_trans HB.out.size HG.out.size) (HO.out.lt g hg).1, (HO.out.lt g hg).2⟩), H4.out.below HB3.out H4.out.lt, grown_trans (grown_below HB.out _) (grown_trans HG.out (grown_below HB3.out _))⟩
theorem Done_err (p k : Nat) (v : Value) (bs : List UInt8) (w : World) (h : RD w p v bs k) (hk : k ≠ 0) :
   Calls Tryz.prog 131 #[.pointer (some ⟨p, 0, none⟩)] w fun x w' => x = .returned (.iface 69 (.int .i64 (k : Int))) ∧ w = w' := by
 have hc1 := h.c1
 rw [ev_ne hk] at hc1
 clear h hk
 go_enter Tryz.func131, Tryz.ntmps131
 go_wp2
 go_ret
 exact ⟨rfl, rfl⟩
theorem Done_left (p : Nat) (v : Value) (bs : List UInt8) (w : World) (h : RD w p v bs 0) (hb : bs ≠ []) :
   Calls Tryz.prog 131 #[.pointer (some ⟨p, 0, none⟩)] w fun x w' => x = .returned (.iface 69 (.int .i64 3)) ∧ w = w' := by
 have hc0 := h.c0
 have hc1 : w.cell? ⟨p, 1, none⟩ = some .nilIface := h.c1
 obtain ⟨A, c, rfl, _⟩ := h.2
 have hl : (0 : Int) < (bs.length : Int) := by have := List.length_pos_iff.2 hb; omega
 clear h hb
 go_enter Tryz.func131, Tryz.ntmps131
 go_wp2
 go_ret
 exact ⟨rfl, rfl⟩
theorem Done_none (p : Nat) (v : Value) (w : World) (h : RD w p v [] 0) :
   Calls Tryz.prog 131 #[.pointer (some ⟨p, 0, none⟩)] w fun x w' => x = .returned .nilIface ∧ w = w' := by
 have hc0 := h.c0
 have hc1 : w.cell? ⟨p, 1, none⟩ = some .nilIface := h.c1
 obtain ⟨A, c, rfl, _⟩ := h.2
 clear h
 go_enter Tryz.func131, Tryz.ntmps131
 go_wp2
 go_ret
 exact ⟨rfl, rfl⟩
def dn (s : List UInt8 × Nat) : Nat := if s.2 = 0 then (if s.1 = [] then 0 else 3) else s.2
theorem Done_any (p : Nat) (s : List UInt8 × Nat) (v : Value) (w : World) (h : RD w p v s.1 s.2) :
   Calls Tryz.prog 131 #[.pointer (some ⟨p, 0, none⟩)] w fun x w' => x = .returned (ev (dn s)) ∧ w = w' := by
 obtain ⟨bs, k⟩ := s
 by_cases hk : k = 0
 · subst hk
   by_cases hb : bs = []
   · subst hb
     refine (Done_none p v w h).mono ?_
     rintro x w' ⟨rfl, rfl⟩
     exact ⟨rfl, rfl⟩
   · refine (Done_left p v bs w h hb).mono ?_
     rintro x w' ⟨rfl, rfl⟩
     exact ⟨by unfold dn; rw [if_pos rfl, if_neg hb]; rfl, rfl⟩
 · refine (Done_err p k v bs w h hk).mono ?_
   rintro x w' ⟨rfl, rfl⟩
   exact ⟨by unfold dn; rw [if_neg hk, ev_ne hk], rfl⟩
/-! ### Each call in one statement. -/
theorem Uint_any (p most : Nat) (s : List UInt8 × Nat) (v : Value) (w : World) (hs : StdP w) (h : RD w p v s.1 s.2) :
   Calls Tryz.prog 126 #[.pointer (some ⟨p, 0, none⟩), .int .u64 (most : Int)] w fun x w' => ∃ v', x = .returned (.int .u64 ((rUint most s).2 : Int)) ∧ RD w' p v' (rUint most s).1.1 (rUint most s).1.2 ∧ w.grownBy w' (some p) := by
 obtain ⟨bs, k⟩ := s
 unfold rUint
 by_cases hk : k = 0
 · subst hk
   rw [if_pos rfl]
   rcases hr : rdUint most bs with ⟨k1, m, rest⟩
   by_cases hk1 : k1 = 0
   · subst hk1
     simp only [if_pos]
     exact Uint_ok p most v bs rest m w hs h hr
   · simp only [if_neg hk1]
     refine (Uint_err p k1 most v bs rest m w hs h hr hk1).mono ?_
     rintro x w' ⟨rfl, h1, h2⟩
     exact ⟨v, rfl, h1, h2⟩
 · rw [if_neg hk]
   refine (Uint_stop p k most v bs w h hk).mono ?_
   rintro x w' ⟨rfl, rfl⟩
   exact ⟨v, rfl, h, World.grownBy.refl w _⟩
theorem Bytes_any (p : Nat) (most : Int) (s : List UInt8 × Nat) (v : Value) (w : World) (hs : StdP w) (hm : most ≤ 9223372036854775807) (h : RD w p v s.1 s.2) (hl : s.1.length ≤ 140737488355328) :
   Calls Tryz.prog 128 #[.pointer (some ⟨p, 0, none⟩), .int .i64 most] w fun x w' => ∃ v' u, x = .returned u ∧ SlT w' (fun q => w.heap.size ≤ q ∧ q < w'.heap.size) u (rBytes 98 most s).2 ∧ RD w' p v' (rBytes 98 most s).1.1 (rBytes 98 most s).1.2 ∧ w.grownBy w' (some p) := by
 obtain ⟨bs, k⟩ := s
 unfold rBytes
 by_cases hk : k = 0
 · subst hk
   rw [if_pos rfl]
   rcases hr : rdBytes 98 most bs with ⟨k1, m, rest⟩
   by_cases hk1 : k1 = 0
   · subst hk1
     simp only [if_pos]
     exact Bytes_ok p most v bs rest m w hs hm h hr (Nat.le_trans (rdBytes_len hr) hl)
   · simp only [if_neg hk1]
     refine (Bytes_err p k1 most v bs rest m w hs hm h hr hk1).mono ?_
     rintro x w' ⟨u, rfl, h0, h1, h2⟩
     exact ⟨v, u, rfl, h0, h1, h2⟩
 · rw [if_neg hk]
   refine (Bytes_stop p k most v bs w h hk).mono ?_
   rintro x w' ⟨rfl, rfl⟩
   exact ⟨v, _, rfl, SlT.nil_ _ _, h, World.grownBy.refl w _⟩
end
section
theorem takeCount_err (A : Option Addr) (n c most k m : Nat) (hm : most ≤ 1000000) (bs rest : List UInt8) (w : World) (hs : StdP w) {B : Nat} (hB : B ≤ w.heap.size) (h : Sl w B (.slice A n c) bs) (hr : rdUint most bs = (k, m, rest)) (hk : k ≠ 0) :
   Calls Tryz.prog 144 #[.slice A n c, .int .i64 (most : Int)] w fun x w' => x = .returned (.tuple #[.int .i64 0, .slice none 0 0, .iface 69 (.int .i64 (k : Int))]) ∧ Below w.heap.size w w' := by
 have c1 := jI (takeUint_err A n c most k m bs rest w hs hB h hr hk)
 have i0 : (0 : Int) ≤ (most : Int) := by omega
 have i1 : (most : Int) ≤ 1000000 := by omega
 have hmax : max (most : Int) 0 = (most : Int) := by omega
 have hw : IntKind.u64.wrap (most : Int) = (most : Int) := by rw [IntKind.wrap_u64]; omega
 clear hr h hk hm
 go_enter Tryz.func144, Tryz.ntmps144
 go_wp2_with (go_at_call 141; go_must (refine c1.out.mono ?_; rintro x w' ⟨rfl, hb⟩))
 go_ret3
 exact ⟨rfl, hb⟩
theorem takeCount_ok (A : Option Addr) (n c most m : Nat) (hm : most ≤ 1000000) (bs rest : List UInt8) (w : World) (hs : StdP w) {B : Nat} (hB : B ≤ w.heap.size) (h : Sl w B (.slice A n c) bs) (hr : rdUint most bs = (0, m, rest)) (hl : m ≤ 1000000) (hf : m ≤ rest.length) :
   Calls Tryz.prog 144 #[.slice A n c, .int .i64 (most : Int)] w fun x w' => ∃ A' c', x = .returned (.tuple #[.int .i64 (m : Int), .slice A' rest.length c', .nilIface]) ∧ Sl w' B (.slice A' rest.length c') rest ∧ Below w.heap.size w w' := by
 have c1 := jI (takeUint_ok A n c most m bs rest w hs hB h hr)
 have i0 : (0 : Int) ≤ (most : Int) := by omega
 have i1 : (most : Int) ≤ 1000000 := by omega
 have hmax : max (most : Int) 0 = (most : Int) := by omega
 have hw : IntKind.u64.wrap (most : Int) = (most : Int) := by rw [IntKind.wrap_u64]; omega
 have hrb : rest.length ≤ 9223372036854775807 := by
   have hx := rdUint_inv hr
   obtain ⟨A', c', hv, h1, h2, _⟩ := h
   have := congrArg List.length hx.1
   rw [List.length_append] at this
   omega
 obtain ⟨q, hq⟩ : ∃ q, q = rest.length := ⟨_, rfl⟩
 rw [← hq] at c1 hrb hf ⊢
 have i2 : (0 : Int) ≤ (m : Int) := by omega
 have i3 : (m : Int) ≤ 1000000 := by omega
 have i4 : ¬ (q : Int) < (m : Int) := by omega
 have i5 : (q : Int) ≤ 9223372036854775807 := by omega
 have hw2 : IntKind.u64.wrap (q : Int) = (q : Int) := by rw [IntKind.wrap_u64]; omega
 have hw3 : IntKind.i64.wrap (m : Int) = (m : Int) := by rw [IntKind.wrap_i64]; omega
 clear hr h hm hl hf hrb hq
 go_enter Tryz.func144, Tryz.ntmps144
 go_wp2_with (go_at_call 141; go_must (refine c1.out.mono ?_; rintro x w' ⟨A1, k1, rfl, h1, hb⟩; have H1 := jI (jA h1 hb); clear h1 hb))
 go_ret3
 exact ⟨_, _, rfl, H1.out.1, H1.out.2⟩
theorem takeCount_long (A : Option Addr) (n c most m : Nat) (hm : most ≤ 1000000) (bs rest : List UInt8) (w : World) (hs : StdP w) {B : Nat} (hB : B ≤ w.heap.size) (h : Sl w B (.slice A n c) bs) (hr : rdUint most bs = (0, m, rest)) (hl : m ≤ 1000000) (hf : rest.length < m) :
   Calls Tryz.prog 144 #[.slice A n c, .int .i64 (most : Int)] w fun x w' => x = .returned (.tuple #[.int .i64 0, .slice none 0 0, .iface 69 (.int .i64 2)]) ∧ Below w.heap.size w w' := by
 have c1 := jI (takeUint_ok A n c most m bs rest w hs hB h hr)
 have i0 : (0 : Int) ≤ (most : Int) := by omega
 have i1 : (most : Int) ≤ 1000000 := by omega
 have hmax : max (most : Int) 0 = (most : Int) := by omega
 have hw : IntKind.u64.wrap (most : Int) = (most : Int) := by rw [IntKind.wrap_u64]; omega
 obtain ⟨q, hq⟩ : ∃ q, q = rest.length := ⟨_, rfl⟩
 rw [← hq] at c1 hf
 have i4 : (q : Int) < (m : Int) := by omega
 have i5 : (q : Int) ≤ 1000000 := by omega
 have hw2 : IntKind.u64.wrap (q : Int) = (q : Int) := by rw [IntKind.wrap_u64]; omega
 clear hr h hm hl hf hq
 go_enter Tryz.func144, Tryz.ntmps144
 go_wp2_with (go_at_call 141; go_must (refine c1.out.mono ?_; rintro x w' ⟨A1, k1, rfl, h1, hb⟩; have H1 := jI hb; clear h1 hb))
 go_ret3
 exact ⟨rfl, H1.out⟩
theorem Count_stop (p k : Nat) (most : Nat) (v : Value) (bs : List UInt8) (w : World) (h : RD w p v bs k) (hk : k ≠ 0) :
   Calls Tryz.prog 129 #[.pointer (some ⟨p, 0, none⟩), .int .i64 (most : Int)] w fun x w' => x = .returned (.int .i64 0) ∧ w = w' := by
 have c1 := jI (stopped_yes p k v bs w h hk)
 clear h hk
 go_enter Tryz.func129, Tryz.ntmps129
 go_wp2_with (go_at_call 140; go_must (refine c1.out.mono ?_; rintro x w' ⟨rfl, rfl⟩))
 go_ret
 exact ⟨rfl, rfl⟩
theorem Count_okof (p m : Nat) (most : Nat) (v : Value) (bs rest : List UInt8) (w : World) (h : RD w p v bs 0)
   (hc : ∀ A c, v = .slice A bs.length c → Calls Tryz.prog 144 #[.slice A bs.length c, .int .i64 (most : Int)] w fun x w' => ∃ A' c', x = .returned (.tuple #[.int .i64 (m : Int), .slice A' rest.length c', .nilIface]) ∧ Sl w' p (.slice A' rest.length c') rest ∧ Below w.heap.size w w') :
   Calls Tryz.prog 129 #[.pointer (some ⟨p, 0, none⟩), .int .i64 (most : Int)] w fun x w' => ∃ v', x = .returned (.int .i64 (m : Int)) ∧ RD w' p v' rest 0 ∧ w.grownBy w' (some p) := by
 have hc0 := h.c0
 have hlt := h.lt
 have H := jI h
 have c1 := jI (stopped_no p v bs w h)
 have h2 := h.2
 clear h
 obtain ⟨A, c, rfl, hx⟩ := h2
 have c2 := jI (hc A c rfl)
 clear hx hc
 go_enter Tryz.func129, Tryz.ntmps129
 go_wp2_with (first
   | (go_at_call 140; go_must (refine c1.out.mono ?_; rintro x w' ⟨rfl, rfl⟩))
   | (go_at_call 144; go_must (refine c2.out.mono ?_; rintro x w1 ⟨A1, k1, rfl, h3, hb⟩; have H3 := jI h3; have HB := jI hb; clear h3 hb hc0))
   | (go_at_call 142; go_must (refine (settle_ok p _ _ _ _ bs rest _ (H.out.below HB.out hlt) H3.out).mono ?_; rintro x w2 ⟨rfl, h4, hg⟩; have H4 := jI h4; have HG := jI hg; clear h4 hg)))
 go_ret
 exact ⟨_, rfl, H4.out, grown_trans (grown_below HB.out _) HG.out⟩
theorem Count_errof (p k : Nat) (hk : k ≠ 0) (most : Nat) (v : Value) (bs : List UInt8) (w : World) (h : RD w p v bs 0)
   (hc : ∀ A c, v = .slice A bs.length c → Calls Tryz.prog 144 #[.slice A bs.length c, .int .i64 (most : Int)] w fun x w' => x = .returned (.tuple #[.int .i64 0, .slice none 0 0, .iface 69 (.int .i64 (k : Int))]) ∧ Below w.heap.size w w') :
   Calls Tryz.prog 129 #[.pointer (some ⟨p, 0, none⟩), .int .i64 (most : Int)] w fun x w' => x = .returned (.int .i64 0) ∧ RD w' p v bs k ∧ w.grownBy w' (some p) := by
 have hc0 := h.c0
 have hlt := h.lt
 have H := jI h
 have HK := jI hk
 have c1 := jI (stopped_no p v bs w h)
 have h2 := h.2
 clear h
 obtain ⟨A, c, rfl, hx⟩ := h2
 have c2 := jI (hc A c rfl)
 clear hx hc hk
 go_enter Tryz.func129, Tryz.ntmps129
 go_wp2_with (first
   | (go_at_call 140; go_must (refine c1.out.mono ?_; rintro x w' ⟨rfl, rfl⟩))
   | (go_at_call 144; go_must (refine c2.out.mono ?_; rintro x w1 ⟨rfl, hb⟩; have HB := jI hb; clear hb hc0))
   | (go_at_call 142; go_must (refine (settle_err p k _ _ bs _ (H.out.below HB.out hlt) HK.out).mono ?_; rintro x w2 ⟨rfl, h4, hg⟩; have H4 := jI h4; have HG := jI hg; clear h4 hg)))
 go_ret
 exact ⟨rfl, H4.out, grown_trans (grown_below HB.out _) HG.out⟩
theorem Count_any (p most : Nat) (hm : most ≤ 1000000) (s : List UInt8 × Nat) (v : Value) (w : World) (hs : StdP w) (h : RD w p v s.1 s.2) :
   Calls Tryz.prog 129 #[.pointer (some ⟨p, 0, none⟩), .int .i64 (most : Int)] w fun x w' => ∃ v', x = .returned (.int .i64 ((rCount most s).2 : Int)) ∧ RD w' p v' (rCount most s).1.1 (rCount most s).1.2 ∧ w.grownBy w' (some p) := by
 obtain ⟨bs, k⟩ := s
 unfold rCount
 by_cases hk : k = 0
 · subst hk
   rw [if_pos rfl]
   rcases hr : rdUint most bs with ⟨k1, m, rest⟩
   have hB := Nat.le_of_lt h.lt
   have h2 := h.2
   by_cases hk1 : k1 = 0
   · subst hk1
     simp only [ne_eq, not_true_eq_false, if_false]
     have hle := (rdUint_inv hr).2.1
     by_cases hf : rest.length < m
     · rw [if_pos hf]
       refine (Count_errof p 2 (by decide) most v bs w h fun A c hv => takeCount_long A _ c most m hm bs rest w hs hB (by rw [← hv]; exact h2) hr (by omega) hf).mono ?_
       rintro x w' ⟨rfl, h1, h2⟩
       exact ⟨v, rfl, h1, h2⟩
     · rw [if_neg hf]
       exact Count_okof p m most v bs rest w h fun A c hv => takeCount_ok A _ c most m hm bs rest w hs hB (by rw [← hv]; exact h2) hr (by omega) (by omega)
   · simp only [ne_eq, hk1, not_false_eq_true, if_true]
     refine (Count_errof p k1 hk1 most v bs w h fun A c hv => takeCount_err A _ c most k1 m hm bs rest w hs hB (by rw [← hv]; exact h2) hr hk1).mono ?_
     rintro x w' ⟨rfl, h1, h2⟩
     exact ⟨v, rfl, h1, h2⟩
 · rw [if_neg hk]
   refine (Count_stop p k most v bs w h hk).mono ?_
   rintro x w' ⟨rfl, rfl⟩
   exact ⟨v, rfl, h, World.grownBy.refl w _⟩
end
section
theorem dn_doneR (s : List UInt8 × Nat) : dn s = doneR s := by
 unfold dn doneR
 obtain ⟨l, k⟩ := s
 by_cases hk : k = 0
 · subst hk
   cases l with
   | nil => simp
   | cons a r => simp
 · simp [hk]
theorem Uint_s (p most : Nat) (s : List UInt8) (k : Nat) (s' : List UInt8) (k' u : Nat) (h1 : rUint most (s, k) = ((s', k'), u)) (v : Value) (w : World) (hs : StdP w) (h : RD w p v s k) :
   Calls Tryz.prog 126 #[.pointer (some ⟨p, 0, none⟩), .int .u64 (most : Int)] w fun x w' => ∃ v', x = .returned (.int .u64 (u : Int)) ∧ RD w' p v' s' k' ∧ w.grownBy w' (some p) := by
 have := Uint_any p most (s, k) v w hs h
 rw [h1] at this
 exact this
theorem Count_s (p most : Nat) (hm : most ≤ 1000000) (s : List UInt8) (k : Nat) (s' : List UInt8) (k' u : Nat) (h1 : rCount most (s, k) = ((s', k'), u)) (v : Value) (w : World) (hs : StdP w) (h : RD w p v s k) :
   Calls Tryz.prog 129 #[.pointer (some ⟨p, 0, none⟩), .int .i64 (most : Int)] w fun x w' => ∃ v', x = .returned (.int .i64 (u : Int)) ∧ RD w' p v' s' k' ∧ w.grownBy w' (some p) := by
 have := Count_any p most hm (s, k) v w hs h
 rw [h1] at this
 exact this
theorem Bytes_s (p : Nat) (most : Int) (hm : most ≤ 9223372036854775807) (s : List UInt8) (k : Nat) (hl : s.length ≤ 140737488355328) (s' : List UInt8) (k' : Nat) (u : List UInt8) (h1 : rBytes 98 most (s, k) = ((s', k'), u)) (m : Nat) (hu : m = u.length) (v : Value) (w : World) (hs : StdP w) (h : RD w p v s k) :
   Calls Tryz.prog 128 #[.pointer (some ⟨p, 0, none⟩), .int .i64 most] w fun x w' => ∃ v' A c, x = .returned (.slice A m c) ∧ SlT w' (fun q => w.heap.size ≤ q ∧ q < w'.heap.size) (.slice A m c) u ∧ RD w' p v' s' k' ∧ w.grownBy w' (some p) := by
 have := Bytes_any p most (s, k) v w hs hm h hl
 rw [h1] at this
 refine this.mono ?_
 rintro x w' ⟨v', y, rfl, hS, hR, hg⟩
 obtain ⟨A, c, rfl, _⟩ := id hS
 rw [← hu] at hS ⊢
 exact ⟨v', A, c, rfl, hS, hR, hg⟩
theorem Done_s (p : Nat) (s : List UInt8) (k d : Nat) (hd : d = doneR (s, k)) (v : Value) (w : World) (h : RD w p v s k) :
   Calls Tryz.prog 131 #[.pointer (some ⟨p, 0, none⟩)] w fun x w' => x = .returned (ev d) ∧ w = w' := by
 have := Done_any p (s, k) v w h
 rw [dn_doneR, ← hd] at this
 exact this
theorem Below.rd {B : Nat} {a w w' : World} {p : Nat} (h : Below B a w) (hg : w.grownBy w' (some p)) (hB : B ≤ a.heap.size) (hp : B ≤ p) : Below B a w' := h.grown hg (Nat.le_trans hB h.size) (by intro k hk; injection hk with hk; omega)
theorem wrap_small {v : Nat} (h : v ≤ 1099511627776) : IntKind.i64.wrap (v : Int) = (v : Int) := by rw [IntKind.wrap_i64]; omega
end
end Go.Proofs.YtncaefocijainaaGreatDoor.pk
