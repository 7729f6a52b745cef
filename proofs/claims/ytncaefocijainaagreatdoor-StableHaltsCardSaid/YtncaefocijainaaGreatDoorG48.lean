import Derived.Test.YtncaefocijainaaGreatDoorG45
import Derived.Test.YtncaefocijainaaGreatDoorG47
import Derived.Test.YtncaefocijainaaGreatDoorG43
import Derived.Test.YtncaefocijainaaGreatDoorG37
import Derived.BigRegion
namespace Go.Proofs.YtncaefocijainaaGreatDoor.pk
open Go Go.RowKit
set_option maxRecDepth 100000
section
theorem app_rests {d : Dk} {t : Tm} {l : List (List UInt8)} {b : List UInt8} (hs : TState d t l) (ha : d.armed < 0) (hb : t.fin + 5 + b.length ≤ t.len) (hm : b.length ≤ 1048576) {at' len' : Nat} {l' : List (List UInt8)} (ho : Rests d at' len' l') (hap : at' + len' ≤ t.at_ ∨ t.at_ + t.len ≤ at') :
   (appS d t b).2 = 0 ∧ TState (appS d t b).1 (appT t b 0) (l ++ [b]) ∧ Rests (appS d t b).1 at' len' l' ∧ (appS d t b).1.armed < 0 ∧ (appS d t b).1.B.length = d.B.length := by
 obtain ⟨h1, h2, h3, h4, h5⟩ := append_calm hs ha hb hm
 have hw : Wi d.B t.at_ t.len (appS d t b).1 := (Wi.refl d hs.calm _ _).app hs.inside ⟨rfl, rfl⟩ hb
 exact ⟨h1, h2, ⟨h2.on, h2.calm, by rw [h4]; exact ho.inside, ho.five, by rw [hw.area hap ho.inside]; exact ho.lies⟩, app_armed t b ha, h4⟩
structure D2 (d : Dk) (L0 L1 : List (List UInt8)) : Prop where
 len : d.B.length = 2000
 r0 : Rests d 0 1000 L0
 r1 : Rests d 1000 1000 L1
 armed : d.armed < 0
theorem d2_new : D2 (newD 2000) [] [] := ⟨List.length_replicate, rests_new 2000 0 1000 (by omega) (by omega), rests_new 2000 1000 1000 (by omega) (by omega), (by decide : (-1 : Int) < 0)⟩
theorem chosen_two (L : Bool → List (List UInt8)) (a c : Nat × St) (ha : 1 ≤ a.1) : (chosen 2000 L (some a) (some c)).saves = (if a.1 < c.1 then c.1 else a.1) ∧ (chosen 2000 L (some a) (some c)).kept = (if a.1 < c.1 then c.2 else a.2) := by
 have e1 : optK (opK 2000 L) false (some a) = { opK 2000 L with on := false, saves := a.1, kept := a.2 } := if_pos (by show 0 < a.1; omega)
 unfold chosen
 rw [e1]
 unfold optK
 simp only
 by_cases h : a.1 < c.1
 · rw [if_pos h, if_pos h, if_pos h]; exact ⟨rfl, rfl⟩
 · rw [if_neg h, if_neg h, if_neg h]; exact ⟨rfl, rfl⟩
section
variable {C : ConD}
def hx : List UInt8 := [120]
theorem lay_two {w0 w : World} {S : Nat → Prop} {q p : Nat} {d : Dk} {t : Tm} {l l' : List (List UInt8)} {at' len' : Nat} (h : LT C w0 w S q p d t) (hs : TState d t l) (ha : d.armed < 0) (ho : Rests d at' len' l') (hap : at' + len' ≤ t.at_ ∨ t.at_ + t.len ≤ at') (A : Option Addr) (m c : Nat) (b : List UInt8) (hm : b.length ≤ 1048576) (hb : t.fin + 5 + b.length ≤ t.len) (hx : SlT w (Av w (SQ S q)) (.slice A m c) b) :
   Calls Tryz.prog 24 #[.pointer (some ⟨q, 0, none⟩), .slice A m c] w fun r w' => ∃ S' d', r = .returned .nilIface ∧ LT C w0 w' S' q p d' (appT t b 0) ∧ TState d' (appT t b 0) (l ++ [b]) ∧ Rests d' at' len' l' ∧ d'.armed < 0 ∧ d'.B.length = d.B.length ∧ Turn (SQ S q) (SQ S' q) w w' := by
 obtain ⟨h1, h2, h3, h4, h5⟩ := app_rests hs ha hb hm ho hap
 refine (lt_append_new h hs A m c b hm hb hx).mono ?_
 rintro r w' ⟨S', rfl, hl, ht⟩
 rw [h1] at hl
 exact ⟨S', _, by rw [h1, er_zero], hl, h2, h3, h4, h5, ht⟩
theorem D2.small {d : Dk} {L0 L1 : List (List UInt8)} (h : D2 d L0 L1) (o : Bool) : ∀ x ∈ cond o L1 L0, x.length ≤ 140737488355328 := fun x hx => by
 cases o with
 | false => have h1 := lies_small h.r0.lies x hx; rw [area_len h.r0.inside] at h1; omega
 | true => have h1 := lies_small h.r1.lies x hx; rw [area_len h.r1.inside] at h1; omega
theorem D2.rests {d : Dk} {L0 L1 : List (List UInt8)} (h : D2 d L0 L1) (o : Bool) : Rests d (aAt 2000 o) (aLen 2000 o) (cond o L1 L0) := by
 cases o with
 | false => exact h.r0
 | true => exact h.r1
theorem d2_bad {w0 w : World} {S : Nat → Prop} {p : Nat} {d : Dk} (E : ConE C) (hs : StdP w0) (h : Live C w0 w S p d) {L0 L1 : List (List UInt8)} {a b : List UInt8} (hd : D2 d (L0 ++ [a]) (L1 ++ [b])) (hbad : decS a = none ∨ decS b = none) (A : Option Addr) (nc cc : Nat) (first : List Int) (hf : Ints w (.slice A nc cc) first) (hm : mayC first = true) (hfS : IntsT w (Av w S) (.slice A nc cc) first) :
   Calls Tryz.prog 12 #[.pointer (some ⟨p, 0, none⟩), .slice A nc cc] w fun y w' => y = .returned (.tuple #[.pointer none, .iface 69 (.int .i64 14)]) ∧ Below w0.heap.size w0 w' := by
 refine (Open_any E w S p d 2000 hd.len.symm h.dk (fun o => cond o (L1 ++ [b]) (L0 ++ [a])) hd.rests A nc cc first hf hm hfS (by rw [hd.len]; omega) (h.hsd hs) hd.small).mono ?_
 rintro y w' (⟨rfl, -, -, ht⟩ | ⟨x, z, hx, hz, -⟩)
 · exact ⟨by rw [er_ne (by decide)]; rfl, h.below.trans (ht.kept.below h.low h.below.size)⟩
 · exfalso
   have hx' : recS (L0 ++ [a]) = some x := hx
   have hz' : recS (L1 ++ [b]) = some z := hz
   rw [recS_more] at hx' hz'
   rcases hbad with e | e
   · rw [e] at hx'; cases hx'
   · rw [e] at hz'; cases hz'
theorem d2_good {w0 w : World} {S : Nat → Prop} {p : Nat} {d : Dk} (E : ConE C) (hs : StdP w0) (h : Live C w0 w S p d) {L0 L1 : List (List UInt8)} {a b : List UInt8} (hd : D2 d (L0 ++ [a]) (L1 ++ [b])) {x y : Nat × St} (hx : decS a = some x) (hy : decS b = some y) (A : Option Addr) (nc cc : Nat) (first : List Int) (hf : Ints w (.slice A nc cc) first) (hm : mayC first = true) (hfS : IntsT w (Av w S) (.slice A nc cc) first) :
   Calls Tryz.prog 12 #[.pointer (some ⟨p, 0, none⟩), .slice A nc cc] w fun e w' => ∃ b Q q k, e = .returned (.tuple #[.pointer (some ⟨b, 0, none⟩), .nilIface]) ∧ LK C w0 w' S b Q p d k q ∧ k.saves = (if x.1 < y.1 then y.1 else x.1) ∧ k.kept = (if x.1 < y.1 then y.2 else x.2) := by
 refine (Open_any E w S p d 2000 hd.len.symm h.dk (fun o => cond o (L1 ++ [b]) (L0 ++ [a])) hd.rests A nc cc first hf hm hfS (by rw [hd.len]; omega) (h.hsd hs) hd.small).mono ?_
 have r0 : recS (L0 ++ [a]) = some (some x) := by rw [recS_more, hx]; rfl
 have r1 : recS (L1 ++ [b]) = some (some y) := by rw [recS_more, hy]; rfl
 have hm1 := (decS_may hx).2.1
 have hm2 := (decS_may hy).2.1
 rintro e w' (⟨-, h1 | h1, -, -⟩ | ⟨x', y', hx', hy', h1⟩)
 · have h1' : recS (L0 ++ [a]) = none := h1
   rw [r0] at h1'; cases h1'
 · have h1' : recS (L1 ++ [b]) = none := h1
   rw [r1] at h1'; cases h1'
 · have hx2 : recS (L0 ++ [a]) = some x' := hx'
   have hy2 : recS (L1 ++ [b]) = some y' := hy'
   rw [r0] at hx2
   rw [r1] at hy2
   injection hx2 with hx2
   injection hy2 with hy2
   subst hx2; subst hy2
   have hch := chosen_two (fun o => cond o (L1 ++ [b]) (L0 ++ [a])) x y (by simpa using hm1)
   rcases h1 with ⟨-, b', Q, q, he, hk, ht⟩ | ⟨h1, -⟩
   · exact ⟨b', Q, q, _, he, ⟨hk, ht.low h.low h.below.size, h.below.trans (ht.kept.below h.low h.below.size)⟩, hch.1, hch.2⟩
   · rw [hch.1] at h1
     exfalso
     split at h1 <;> omega
theorem resS_cases {a : List UInt8} {m f : Nat} {s : St} (h : resS' a = (m, s, f)) : (f = 0 ∧ decS a = some (m, s)) ∨ (f = 3 ∧ decS a = none) := by
 unfold resS' at h
 cases hd : decS a with
 | none => rw [hd] at h; simp only [Prod.mk.injEq] at h; exact Or.inr ⟨h.2.2.symm, rfl⟩
 | some x => rw [hd] at h; simp only [Prod.mk.injEq] at h; exact Or.inl ⟨h.2.2.symm, by rw [← h.1, ← h.2.1]⟩
theorem RDec_law (Bd : Nat) (A : Option Addr) (n c : Nat) (a : List UInt8) (w : World) (hBd : Bd ≤ w.heap.size) (h : Sl w Bd (.slice A n c) a) (hl : a.length ≤ 140737488355328) {m f : Nat} {s : St} (hr : resS' a = (m, s, f)) :
   Calls Tryz.prog 25 #[.slice A n c] w fun y w' => ∃ q : Pl, y = .returned (.tuple #[.int .i64 (m : Int), .agg #[.int .i64 s.term, .int .i64 s.vote, .int .i64 s.log.base, .int .i64 s.log.term, .slice q.AL q.nL q.cL, .slice q.AC q.nC q.cC, .slice q.AS q.nS q.cS], .int .i64 (f : Int)]) ∧
     Rws w' (RTd Bd w w') s q ∧ ((∀ e ∈ s.log.l, e.ok) ∧ ∀ z ∈ s.conf, inI z) ∧ Below w.heap.size w w' := by
 refine (RDecS_any Bd A n c a w hBd h hl).mono ?_
 intro y w' hy
 unfold RDecP at hy
 rw [hr] at hy
 exact hy
theorem Rws.three {w w' : World} {T : Nat → Prop} {s : St} {q : Pl} (h : Rws w T s q) (hT : ∀ k, T k → k < w.heap.size) (ho : (∀ e ∈ s.log.l, e.ok) ∧ ∀ z ∈ s.conf, inI z) (hk : ∀ k, T k → k < w.heap.size → w'.heap[k]? = w.heap[k]?) (hs : w.heap.size ≤ w'.heap.size) :
   Ents w' (.slice q.AL q.nL q.cL) s.log.l ∧ Ints w' (.slice q.AC q.nC q.cC) s.conf ∧ Bys w' (.slice q.AS q.nS q.cS) s.snap := by
 have h2 := h.move hk (T' := fun k => k < w'.heap.size) (fun k hk2 => Nat.lt_of_lt_of_le (hT k hk2) hs)
 exact ⟨⟨h2.ents, ho.1⟩, ⟨h2.conf, ho.2⟩, h2.snap⟩
set_option maxHeartbeats 32000000 in
theorem halts_true (E : ConE C) (B : ConB ConE C) (w0 : World) (hs : StdP w0) (A : Option Addr) (n c : Nat) (a : List UInt8) (A' : Option Addr) (n' c' : Nat) (b : List UInt8) (swap : Bool) (ha : SlT w0 (fun k => k < w0.heap.size) (.slice A n c) a) (hb : SlT w0 (fun k => k < w0.heap.size) (.slice A' n' c') b) :
   Calls Tryz.prog 5 #[.slice A n c, .slice A' n' c', .bool swap] w0 fun e w' => e = .returned (.bool true) ∧ Below w0.heap.size w0 w' := by
 obtain ⟨hna, hnc, hcm⟩ := ha.sl.len
 obtain ⟨hnb, hnc', hcm'⟩ := hb.sl.len
 have in1 : (n : Int) ≤ 9223372036854775807 := by omega
 have in2 : (n' : Int) ≤ 9223372036854775807 := by omega
 have HS := jI hs
 have CSU := jI fun W (hW : Below w0.heap.size w0 W) => sure15 E B W (hs.more hW)
 have HAB := jI (jA ha (jA hb (jA hna hnb)))
 clear ha hb hnc hcm hnc' hcm' hs hna hnb
 by_cases h1 : n ≤ 900
 rotate_left
 · have i1 : (900 : Int) < (n : Int) := by omega
   go_enter Tryz.func5, Tryz.ntmps5
   go_wp2_with (go_at_call 10; go_must (refine (CSU.out w0 (Below.refl _ _)).mono ?_; rintro y w1 ⟨rfl, hb⟩; have H1 := jI hb; clear hb))
   go_ret
   exact ⟨rfl, H1.out⟩
 by_cases h2 : n' ≤ 900
 rotate_left
 · have i1 : ¬ (900 : Int) < (n : Int) := by omega
   have i2 : (900 : Int) < (n' : Int) := by omega
   go_enter Tryz.func5, Tryz.ntmps5
   go_wp2_with (go_at_call 10; go_must (refine (CSU.out w0 (Below.refl _ _)).mono ?_; rintro y w1 ⟨rfl, hb⟩; have H1 := jI hb; clear hb))
   go_ret
   exact ⟨rfl, H1.out⟩
 have i1 : ¬ (900 : Int) < (n : Int) := by omega
 have i2 : ¬ (900 : Int) < (n' : Int) := by omega
 have HLE := jI (jA h1 h2)
 clear h1 h2
 have CBL := blank_any B 2000 w0 (by omega) (by omega)
 rw [show ((2000 : Nat) : Int) = 2000 from rfl] at CBL
 have CBL := jI CBL
 go_enter Tryz.func5, Tryz.ntmps5
 go_upto_region 4 with (go_at_call 11; go_must (refine CBL.out.mono ?_; rintro y w1 ⟨p, S, rfl, hd⟩; have H1 := jI hd; clear hd))
 obtain ⟨W2, g2, hW2, hg2, hb2, hq2, hz2⟩ := one_box w1 (.cells #[.slice A n c, .slice A' n' c'] 33)
 have HL := jI (show Live C w0 W2 S p (newD 2000) from H1.out.more hb2)
 have HR2 := jI (jA hq2 (show ∀ x, S x → x ≠ g2 from fun x hx => by have := C.foot H1.out.dk x hx; omega))
 have HW2 := jI (jA hW2 hg2)
 have HGL := jI (show w0.heap.size ≤ g2 by rw [hg2]; exact H1.out.size)
 clear hW2 hg2 hb2 hq2 hz2
 go_upto_region 5 with fail
 rw [← HW2.out.1, ← HW2.out.2]
 go_wp2_with fail
 go_loopw [9] (fun ii wr => ∃ (Sr : Nat → Prop) (dr : Dk), Hid (Live C w0 wr Sr p dr ∧ wr.heap[g2]? = some (.cells #[.slice A n c, .slice A' n' c'] 33 (0, 0)) ∧ (∀ x, Sr x → x ≠ g2)) ∧ ((ii = .int .i64 0 ∧ Hid (D2 dr [] [])) ∨ (ii = .int .i64 1 ∧ Hid (D2 dr ((cond swap [hx] []) ++ [a]) [])) ∨ (ii = .int .i64 2 ∧ Hid (D2 dr ((cond swap [hx] []) ++ [a]) ((cond swap [hx] []) ++ [b]))))) (fun ii _ => 2 - (intOf ii).toNat)
 case atStart => exact ⟨S, _, jI ⟨HL.out, HR2.out.1, HR2.out.2⟩, Or.inl ⟨rfl, jI d2_new⟩⟩
 case round =>
   obtain ⟨Sr, dr, HI, hrel⟩ := hrel
   rcases hrel with ⟨rfl, HD⟩ | ⟨rfl, HD⟩ | ⟨rfl, HD⟩
   · cases swap with
     | false =>
       have CO := live_open HI.out.1 0 1000 HD.out.r0
       rw [show ((1000 : Nat) : Int) = 1000 from rfl] at CO
       try rw [show ((0 : Nat) : Int) = 0 from rfl] at CO
       have CO := jI CO
       have CC := fun (w : World) (C : Array Value) (n c : Nat) => Lib.run_convert_bytes_const (P := Tryz.prog) w 33 5 C n c Tryz.underlying33 Tryz.underlying5
       go_upto_region 9 with (go_at_call 23; go_must (refine CO.out.mono ?_; rintro y w3 ⟨q, v, rfl, hl, ho, hq, hvq, hb3⟩; obtain ⟨Av, cv, rfl, -, -⟩ := ho.form; have H3 := jI (jA hl (jA hq hb3)); clear hl ho hq hvq hb3))
       have HT := jI (jA HD.out.r0.state (jA HD.out.armed (jA HD.out.r1 HD.out.len)))
       have HG := jI (show w3.heap[g2]? = some (.cells #[.slice A n c, .slice A' n' c'] 33 (0, 0)) from (H3.out.2.2.block g2 (obj_lt HI.out.2.1)).trans HI.out.2.1)
       have HSG := jI (show ∀ x, SQ Sr q x → x ≠ g2 from fun x hx => by
         rcases hx with hx | hx
         · exact HI.out.2.2 x hx
         · have := obj_lt HI.out.2.1; have := H3.out.2.1; omega)
       have CA := jI (lay_two (at' := 1000) (len' := 1000) H3.out.1 HT.out.1 HT.out.2.1 HT.out.2.2.1 (by show 1000 + 1000 ≤ 0 ∨ 0 + 1000 ≤ 1000; omega) A n c a (by have := HAB.out.2.2; have := HLE.out; omega) (by show 0 + 5 + a.length ≤ 1000; have := HAB.out.2.2; have := HLE.out; omega) (H3.out.1.arg (HAB.out.1.kept fun k hk hk2 => H3.out.1.below.block k hk2)))
       have z0 : w3.cell? ⟨g2, 0, none⟩ = some (.slice A n c) := (cell_of_row w3 g2 0 _ _ (0, 0) HG.out).trans rfl
       go_wp2_with (go_at_call 24; go_must (refine CA.out.mono ?_; rintro y w4 ⟨S4, d4, rfl, hl, hst, hro, har, hle, ht⟩; have H4 := jI (jA hl (jA hst (jA hro (jA har (jA hle ht))))); clear hl hst hro har hle ht))
       go_roundw
       case rel => exact ⟨S4, d4, jI ⟨H4.out.1.live, (H4.out.2.2.2.2.2.kept.block g2 (obj_lt HG.out) fun e => HSG.out g2 e rfl).trans HG.out, fun x hx => by
         rcases H4.out.2.2.2.2.2.new x (Or.inl hx) with h1 | h1
         · exact HSG.out x h1
         · have := obj_lt HG.out; omega⟩, Or.inr (Or.inl ⟨by go_num, jI ⟨H4.out.2.2.2.2.1.trans HT.out.2.2.2, H4.out.2.1.rests, H4.out.2.2.1, H4.out.2.2.2.1⟩⟩)⟩
       case measure => simp [intOf]
     | true =>
       have CO := live_open HI.out.1 0 1000 HD.out.r0
       rw [show ((1000 : Nat) : Int) = 1000 from rfl] at CO
       try rw [show ((0 : Nat) : Int) = 0 from rfl] at CO
       have CO := jI CO
       have CC := fun (w : World) (C : Array Value) (n c : Nat) => Lib.run_convert_bytes_const (P := Tryz.prog) w 33 5 C n c Tryz.underlying33 Tryz.underlying5
       go_upto_region 9 with (go_at_call 23; go_must (refine CO.out.mono ?_; rintro y w3 ⟨q, v, rfl, hl, ho, hq, hvq, hb3⟩; obtain ⟨Av, cv, rfl, -, -⟩ := ho.form; have H3 := jI (jA hl (jA hq hb3)); clear hl ho hq hvq hb3))
       have HT := jI (jA HD.out.r0.state (jA HD.out.armed (jA HD.out.r1 HD.out.len)))
       have HG := jI (show w3.heap[g2]? = some (.cells #[.slice A n c, .slice A' n' c'] 33 (0, 0)) from (H3.out.2.2.block g2 (obj_lt HI.out.2.1)).trans HI.out.2.1)
       have HSG := jI (show ∀ x, SQ Sr q x → x ≠ g2 from fun x hx => by
         rcases hx with hx | hx
         · exact HI.out.2.2 x hx
         · have := obj_lt HI.out.2.1; have := H3.out.2.1; omega)
       have CX := jI (lay_two (at' := 1000) (len' := 1000) (H3.out.1.more (below_alloc w3 (.cells #[.int .u8 120] 5 (1, 2)))) HT.out.1 HT.out.2.1 HT.out.2.2.1 (by show 1000 + 1000 ≤ 0 ∨ 0 + 1000 ≤ 1000; omega) _ 1 1 hx (by decide) (by show 0 + 5 + 1 ≤ 1000; omega) (H3.out.1.lit 5 hx (by decide) (1, 2)))
       go_upto_region 13 with (go_at_call 24; go_must (refine CX.out.mono ?_; rintro y w5 ⟨S5, d5, rfl, hl, hst, hro, har, hle, ht⟩; have H5 := jI (jA hl (jA hst (jA hro (jA har (jA hle ht))))); clear hl hst hro har hle ht))
       have HG5 := jI (jA (show w5.heap[g2]? = some (.cells #[.slice A n c, .slice A' n' c'] 33 (0, 0)) from (H5.out.2.2.2.2.2.kept.block g2 (by rw [World.size_alloc]; have := obj_lt HG.out; omega) fun e => HSG.out g2 e rfl).trans ((heap_alloc_old w3 _ (obj_lt HG.out)).trans HG.out)) (show ∀ x, SQ S5 q x → x ≠ g2 from fun x hx => by
         rcases H5.out.2.2.2.2.2.new x hx with h1 | h1
         · exact HSG.out x h1
         · have := obj_lt HG.out; rw [World.size_alloc] at h1; omega))
       have CA := jI (lay_two (at' := 1000) (len' := 1000) H5.out.1 H5.out.2.1 H5.out.2.2.2.1 H5.out.2.2.1 (by show 1000 + 1000 ≤ 0 ∨ 0 + 1000 ≤ 1000; omega) A n c a (by have := HAB.out.2.2; have := HLE.out; omega) (by show 0 + 5 + 1 + 5 + a.length ≤ 1000; have := HAB.out.2.2; have := HLE.out; omega) (H5.out.1.arg (HAB.out.1.kept fun k hk hk2 => H5.out.1.below.block k hk2)))
       have z0 : w5.cell? ⟨g2, 0, none⟩ = some (.slice A n c) := (cell_of_row w5 g2 0 _ _ (0, 0) HG5.out.1).trans rfl
       go_wp2_with (go_at_call 24; go_must (refine CA.out.mono ?_; rintro y w4 ⟨S4, d4, rfl, hl, hst, hro, har, hle, ht⟩; have H4 := jI (jA hl (jA hst (jA hro (jA har (jA hle ht))))); clear hl hst hro har hle ht))
       go_roundw
       case rel => exact ⟨S4, d4, jI ⟨H4.out.1.live, (H4.out.2.2.2.2.2.kept.block g2 (obj_lt HG5.out.1) fun e => HG5.out.2 g2 e rfl).trans HG5.out.1, fun x hx => by
         rcases H4.out.2.2.2.2.2.new x (Or.inl hx) with h1 | h1
         · exact HG5.out.2 x h1
         · have := obj_lt HG5.out.1; omega⟩, Or.inr (Or.inl ⟨by go_num, jI ⟨H4.out.2.2.2.2.1.trans (H5.out.2.2.2.2.1.trans HT.out.2.2.2), H4.out.2.1.rests, H4.out.2.2.1, H4.out.2.2.2.1⟩⟩)⟩
       case measure => simp [intOf]
   · cases swap with
     | false =>
       have CO := live_open HI.out.1 1000 1000 HD.out.r1
       rw [show ((1000 : Nat) : Int) = 1000 from rfl] at CO
       try rw [show ((1000 : Nat) : Int) = 1000 from rfl] at CO
       have CO := jI CO
       have CC := fun (w : World) (C : Array Value) (n c : Nat) => Lib.run_convert_bytes_const (P := Tryz.prog) w 33 5 C n c Tryz.underlying33 Tryz.underlying5
       go_upto_region 9 with (go_at_call 23; go_must (refine CO.out.mono ?_; rintro y w3 ⟨q, v, rfl, hl, ho, hq, hvq, hb3⟩; obtain ⟨Av, cv, rfl, -, -⟩ := ho.form; have H3 := jI (jA hl (jA hq hb3)); clear hl ho hq hvq hb3))
       have HT := jI (jA HD.out.r1.state (jA HD.out.armed (jA HD.out.r0 HD.out.len)))
       have HG := jI (show w3.heap[g2]? = some (.cells #[.slice A n c, .slice A' n' c'] 33 (0, 0)) from (H3.out.2.2.block g2 (obj_lt HI.out.2.1)).trans HI.out.2.1)
       have HSG := jI (show ∀ x, SQ Sr q x → x ≠ g2 from fun x hx => by
         rcases hx with hx | hx
         · exact HI.out.2.2 x hx
         · have := obj_lt HI.out.2.1; have := H3.out.2.1; omega)
       have CA := jI (lay_two (at' := 0) (len' := 1000) H3.out.1 HT.out.1 HT.out.2.1 HT.out.2.2.1 (by show 0 + 1000 ≤ 1000 ∨ 1000 + 1000 ≤ 0; omega) A' n' c' b (by have := HAB.out.2.2; have := HLE.out; omega) (by show 0 + 5 + b.length ≤ 1000; have := HAB.out.2.2; have := HLE.out; omega) (H3.out.1.arg (HAB.out.2.1.kept fun k hk hk2 => H3.out.1.below.block k hk2)))
       have z1 : w3.cell? ⟨g2, 1, none⟩ = some (.slice A' n' c') := (cell_of_row w3 g2 1 _ _ (0, 0) HG.out).trans rfl
       go_wp2_with (go_at_call 24; go_must (refine CA.out.mono ?_; rintro y w4 ⟨S4, d4, rfl, hl, hst, hro, har, hle, ht⟩; have H4 := jI (jA hl (jA hst (jA hro (jA har (jA hle ht))))); clear hl hst hro har hle ht))
       go_roundw
       case rel => exact ⟨S4, d4, jI ⟨H4.out.1.live, (H4.out.2.2.2.2.2.kept.block g2 (obj_lt HG.out) fun e => HSG.out g2 e rfl).trans HG.out, fun x hx => by
         rcases H4.out.2.2.2.2.2.new x (Or.inl hx) with h1 | h1
         · exact HSG.out x h1
         · have := obj_lt HG.out; omega⟩, Or.inr (Or.inr ⟨by go_num, jI ⟨H4.out.2.2.2.2.1.trans HT.out.2.2.2, H4.out.2.2.1, H4.out.2.1.rests, H4.out.2.2.2.1⟩⟩)⟩
       case measure => simp [intOf]
     | true =>
       have CO := live_open HI.out.1 1000 1000 HD.out.r1
       rw [show ((1000 : Nat) : Int) = 1000 from rfl] at CO
       try rw [show ((1000 : Nat) : Int) = 1000 from rfl] at CO
       have CO := jI CO
       have CC := fun (w : World) (C : Array Value) (n c : Nat) => Lib.run_convert_bytes_const (P := Tryz.prog) w 33 5 C n c Tryz.underlying33 Tryz.underlying5
       go_upto_region 9 with (go_at_call 23; go_must (refine CO.out.mono ?_; rintro y w3 ⟨q, v, rfl, hl, ho, hq, hvq, hb3⟩; obtain ⟨Av, cv, rfl, -, -⟩ := ho.form; have H3 := jI (jA hl (jA hq hb3)); clear hl ho hq hvq hb3))
       have HT := jI (jA HD.out.r1.state (jA HD.out.armed (jA HD.out.r0 HD.out.len)))
       have HG := jI (show w3.heap[g2]? = some (.cells #[.slice A n c, .slice A' n' c'] 33 (0, 0)) from (H3.out.2.2.block g2 (obj_lt HI.out.2.1)).trans HI.out.2.1)
       have HSG := jI (show ∀ x, SQ Sr q x → x ≠ g2 from fun x hx => by
         rcases hx with hx | hx
         · exact HI.out.2.2 x hx
         · have := obj_lt HI.out.2.1; have := H3.out.2.1; omega)
       have CX := jI (lay_two (at' := 0) (len' := 1000) (H3.out.1.more (below_alloc w3 (.cells #[.int .u8 120] 5 (1, 2)))) HT.out.1 HT.out.2.1 HT.out.2.2.1 (by show 0 + 1000 ≤ 1000 ∨ 1000 + 1000 ≤ 0; omega) _ 1 1 hx (by decide) (by show 0 + 5 + 1 ≤ 1000; omega) (H3.out.1.lit 5 hx (by decide) (1, 2)))
       go_upto_region 13 with (go_at_call 24; go_must (refine CX.out.mono ?_; rintro y w5 ⟨S5, d5, rfl, hl, hst, hro, har, hle, ht⟩; have H5 := jI (jA hl (jA hst (jA hro (jA har (jA hle ht))))); clear hl hst hro har hle ht))
       have HG5 := jI (jA (show w5.heap[g2]? = some (.cells #[.slice A n c, .slice A' n' c'] 33 (0, 0)) from (H5.out.2.2.2.2.2.kept.block g2 (by rw [World.size_alloc]; have := obj_lt HG.out; omega) fun e => HSG.out g2 e rfl).trans ((heap_alloc_old w3 _ (obj_lt HG.out)).trans HG.out)) (show ∀ x, SQ S5 q x → x ≠ g2 from fun x hx => by
         rcases H5.out.2.2.2.2.2.new x hx with h1 | h1
         · exact HSG.out x h1
         · have := obj_lt HG.out; rw [World.size_alloc] at h1; omega))
       have CA := jI (lay_two (at' := 0) (len' := 1000) H5.out.1 H5.out.2.1 H5.out.2.2.2.1 H5.out.2.2.1 (by show 0 + 1000 ≤ 1000 ∨ 1000 + 1000 ≤ 0; omega) A' n' c' b (by have := HAB.out.2.2; have := HLE.out; omega) (by show 0 + 5 + 1 + 5 + b.length ≤ 1000; have := HAB.out.2.2; have := HLE.out; omega) (H5.out.1.arg (HAB.out.2.1.kept fun k hk hk2 => H5.out.1.below.block k hk2)))
       have z1 : w5.cell? ⟨g2, 1, none⟩ = some (.slice A' n' c') := (cell_of_row w5 g2 1 _ _ (0, 0) HG5.out.1).trans rfl
       go_wp2_with (go_at_call 24; go_must (refine CA.out.mono ?_; rintro y w4 ⟨S4, d4, rfl, hl, hst, hro, har, hle, ht⟩; have H4 := jI (jA hl (jA hst (jA hro (jA har (jA hle ht))))); clear hl hst hro har hle ht))
       go_roundw
       case rel => exact ⟨S4, d4, jI ⟨H4.out.1.live, (H4.out.2.2.2.2.2.kept.block g2 (obj_lt HG5.out.1) fun e => HG5.out.2 g2 e rfl).trans HG5.out.1, fun x hx => by
         rcases H4.out.2.2.2.2.2.new x (Or.inl hx) with h1 | h1
         · exact HG5.out.2 x h1
         · have := obj_lt HG5.out.1; omega⟩, Or.inr (Or.inr ⟨by go_num, jI ⟨H4.out.2.2.2.2.1.trans (H5.out.2.2.2.2.1.trans HT.out.2.2.2), H4.out.2.2.1, H4.out.2.1.rests, H4.out.2.2.2.1⟩⟩)⟩
       case measure => simp [intOf]
   · go_upto_region 15 with fail
     obtain ⟨W15, g15, hW15, hg15, hb15, hI15, hT15⟩ := lit_ints wr [1] (by intro z hz; unfold inI; rw [List.mem_singleton.1 hz]; decide) (by decide)
     have HLV := jI (HI.out.1.more hb15)
     have HT15 := jI (jA hI15 (hT15 Sr (C.foot HI.out.1.dk)))
     have HW15 := jI (jA (show W15 = wr.alloc (.cells #[.int .i64 1] 3) from hW15) hg15)
     clear hW15 hg15 hb15 hI15 hT15
     rcases hra : resS' a with ⟨ma, sa, fa⟩
     rcases hrb : resS' b with ⟨mb, sb, fb⟩
     have CA := jI fun W (hW : Below w0.heap.size w0 W) => RDec_law w0.heap.size A n c a W hW.size (Sl.below (show Sl w0 w0.heap.size (.slice A n c) a from HAB.out.1) hW) (by have := HAB.out.2.2; have := HLE.out; omega) hra
     have CBd := jI fun W (hW : Below w0.heap.size w0 W) => RDec_law w0.heap.size A' n' c' b W hW.size (Sl.below (show Sl w0 w0.heap.size (.slice A' n' c') b from HAB.out.2.1) hW) (by have := HAB.out.2.2; have := HLE.out; omega) hrb
     have two : (fa = 3 ∧ Hid (decS a = none ∨ decS b = none)) ∨ (fa = 0 ∧ fb = 3 ∧ Hid (decS a = none ∨ decS b = none)) ∨ (fa = 0 ∧ fb = 0 ∧ Hid (decS a = some (ma, sa) ∧ decS b = some (mb, sb))) := by
       rcases resS_cases hra with ⟨h1, h2⟩ | ⟨h1, h2⟩
       · rcases resS_cases hrb with ⟨h3, h4⟩ | ⟨h3, h4⟩
         · exact Or.inr (Or.inr ⟨h1, h3, jI ⟨h2, h4⟩⟩)
         · exact Or.inr (Or.inl ⟨h1, h3, jI (Or.inr h4)⟩)
       · exact Or.inl ⟨h1, jI (Or.inl h2)⟩
     clear hra hrb
     rcases two with ⟨rfl, hbad⟩ | ⟨rfl, rfl, hbad⟩ | ⟨rfl, rfl, HGD⟩
     · replace CA := CA.out
       simp only [show ((3 : Nat) : Int) = 3 from rfl] at CA
       have CA := jI CA
       have COp := jI (d2_bad E HS.out HLV.out HD.out hbad.out (some ⟨g15, 0, none⟩) 1 1 [1] HT15.out.1 (by decide) HT15.out.2)
       go_upto_region 16 with (go_at_call 12; rw [← HW15.out.1, ← HW15.out.2]; go_must (refine COp.out.mono ?_; rintro y w15 ⟨rfl, hb⟩; have HB15 := jI hb; clear hb))
       go_upto_region 17 with (go_at_call 25; go_must (refine (CA.out _ HB15.out).mono ?_; rintro y w16 ⟨qa, rfl, hE, hI, hb⟩; have H16 := jI (jA hE (jA hI (HB15.out.trans (hb.mono HB15.out.size)))); clear hE hI hb))
       obtain ⟨W16, gx, hW16, hgx, hb16, hqx, hzx⟩ := one_box w16 (.cells #[.int .i64 sa.term, .int .i64 sa.vote, .int .i64 sa.log.base, .int .i64 sa.log.term, .slice qa.AL qa.nL qa.cL, .slice qa.AC qa.nC qa.cC, .slice qa.AS qa.nS qa.cS] 50)
       have HB16 := jI (H16.out.2.2.trans (hb16.mono H16.out.2.2.size))
       rw [← hW16, ← hgx]
       clear hW16 hgx hb16 hqx hzx
       go_upto_region 18 with (go_at_call 25; go_must (refine (CBd.out _ HB16.out).mono ?_; rintro y w17 ⟨qb, rfl, hE, hI, hb⟩; have HB17 := jI (HB16.out.trans (hb.mono HB16.out.size)); clear hE hI hb))
       have HB18 := jI (HB17.out.trans ((below_alloc w17 (.cells #[.int .i64 sb.term, .int .i64 sb.vote, .int .i64 sb.log.base, .int .i64 sb.log.term, .slice qb.AL qb.nL qb.cL, .slice qb.AC qb.nC qb.cC, .slice qb.AS qb.nS qb.cS] 50)).mono HB17.out.size))
       go_wp2_with (first
         | (go_at_call 6; go_must (refine (num_some 14 _ (HS.out.more HB18.out).std).mono ?_; rintro y w19 ⟨rfl, hb⟩; have HB19 := jI (HB18.out.trans (hb.mono HB18.out.size)); clear hb))
         | (go_at_call 10; go_must (refine (CSU.out w19 HB19.out).mono ?_; rintro y w20 ⟨rfl, hb⟩; have H20 := jI (HB19.out.trans (hb.mono HB19.out.size)); clear hb)))
       go_ret
       exact ⟨rfl, H20.out⟩
     · replace CA := CA.out
       simp only [show ((0 : Nat) : Int) = 0 from rfl] at CA
       have CA := jI CA
       replace CBd := CBd.out
       simp only [show ((3 : Nat) : Int) = 3 from rfl] at CBd
       have CBd := jI CBd
       have COp := jI (d2_bad E HS.out HLV.out HD.out hbad.out (some ⟨g15, 0, none⟩) 1 1 [1] HT15.out.1 (by decide) HT15.out.2)
       go_upto_region 16 with (go_at_call 12; rw [← HW15.out.1, ← HW15.out.2]; go_must (refine COp.out.mono ?_; rintro y w15 ⟨rfl, hb⟩; have HB15 := jI hb; clear hb))
       go_upto_region 17 with (go_at_call 25; go_must (refine (CA.out _ HB15.out).mono ?_; rintro y w16 ⟨qa, rfl, hE, hI, hb⟩; have H16 := jI (jA hE (jA hI (HB15.out.trans (hb.mono HB15.out.size)))); clear hE hI hb))
       obtain ⟨W16, gx, hW16, hgx, hb16, hqx, hzx⟩ := one_box w16 (.cells #[.int .i64 sa.term, .int .i64 sa.vote, .int .i64 sa.log.base, .int .i64 sa.log.term, .slice qa.AL qa.nL qa.cL, .slice qa.AC qa.nC qa.cC, .slice qa.AS qa.nS qa.cS] 50)
       have HB16 := jI (H16.out.2.2.trans (hb16.mono H16.out.2.2.size))
       rw [← hW16, ← hgx]
       clear hW16 hgx hb16 hqx hzx
       go_upto_region 18 with (go_at_call 25; go_must (refine (CBd.out _ HB16.out).mono ?_; rintro y w17 ⟨qb, rfl, hE, hI, hb⟩; have HB17 := jI (HB16.out.trans (hb.mono HB16.out.size)); clear hE hI hb))
       have HB18 := jI (HB17.out.trans ((below_alloc w17 (.cells #[.int .i64 sb.term, .int .i64 sb.vote, .int .i64 sb.log.base, .int .i64 sb.log.term, .slice qb.AL qb.nL qb.cL, .slice qb.AC qb.nC qb.cC, .slice qb.AS qb.nS qb.cS] 50)).mono HB17.out.size))
       go_wp2_with (first
         | (go_at_call 6; go_must (refine (num_some 14 _ (HS.out.more HB18.out).std).mono ?_; rintro y w19 ⟨rfl, hb⟩; have HB19 := jI (HB18.out.trans (hb.mono HB18.out.size)); clear hb))
         | (go_at_call 10; go_must (refine (CSU.out w19 HB19.out).mono ?_; rintro y w20 ⟨rfl, hb⟩; have H20 := jI (HB19.out.trans (hb.mono HB19.out.size)); clear hb)))
       go_ret
       exact ⟨rfl, H20.out⟩
     · replace CA := CA.out
       simp only [show ((0 : Nat) : Int) = 0 from rfl] at CA
       have CA := jI CA
       replace CBd := CBd.out
       simp only [show ((0 : Nat) : Int) = 0 from rfl] at CBd
       have CBd := jI CBd
       have COp := jI (d2_good E HS.out HLV.out HD.out HGD.out.1 HGD.out.2 (some ⟨g15, 0, none⟩) 1 1 [1] HT15.out.1 (by decide) HT15.out.2)
       go_upto_region 16 with (go_at_call 12; rw [← HW15.out.1, ← HW15.out.2]; go_must (refine COp.out.mono ?_; rintro y w15 ⟨bk, Q, qk, kk, rfl, hk, hsv, hkp⟩; have HK := jI (jA hk (jA hsv hkp)); have HB15 := jI hk.bel; clear hk hsv hkp))
       go_upto_region 17 with (go_at_call 25; go_must (refine (CA.out _ HB15.out).mono ?_; rintro y w16 ⟨qa, rfl, hE, hI, hb⟩; have H16 := jI (jA hE (jA hI (HB15.out.trans (hb.mono HB15.out.size)))); have H16b := jI hb; clear hE hI hb))
       obtain ⟨W16, gx, hW16, hgx, hb16, hqx, hzx⟩ := one_box w16 (.cells #[.int .i64 sa.term, .int .i64 sa.vote, .int .i64 sa.log.base, .int .i64 sa.log.term, .slice qa.AL qa.nL qa.cL, .slice qa.AC qa.nC qa.cC, .slice qa.AS qa.nS qa.cS] 50)
       have HB16 := jI (H16.out.2.2.trans (hb16.mono H16.out.2.2.size))
       have HX := jI (jA hqx (show w15.heap.size ≤ gx ∧ w16.heap.size ≤ gx from ⟨by have := H16b.out.size; omega, by omega⟩))
       rw [← hW16, ← hgx]
       have HBX := jI hb16
       clear hW16 hgx hb16 hqx hzx
       go_upto_region 18 with (go_at_call 25; go_must (refine (CBd.out _ HB16.out).mono ?_; rintro y w17 ⟨qb, rfl, hE, hI, hb⟩; have H17 := jI (jA hE (jA hI (jA hI (jA hb (HB16.out.trans (hb.mono HB16.out.size)))))); clear hE hI hb))
       obtain ⟨W17, gy, hW17, hgy, hb17, hqy, hzy⟩ := one_box w17 (.cells #[.int .i64 sb.term, .int .i64 sb.vote, .int .i64 sb.log.base, .int .i64 sb.log.term, .slice qb.AL qb.nL qb.cL, .slice qb.AC qb.nC qb.cC, .slice qb.AS qb.nS qb.cS] 50)
       have H17b := jI (jA (H17.out.2.2.2.1.trans (hb17.mono H17.out.2.2.2.1.size)) (jA hb17 hqy))
       have HXR := jI (show W17.heap[gx]? = some (.cells #[.int .i64 sa.term, .int .i64 sa.vote, .int .i64 sa.log.base, .int .i64 sa.log.term, .slice qa.AL qa.nL qa.cL, .slice qa.AC qa.nC qa.cC, .slice qa.AS qa.nS qa.cS] 50 (0, 0)) ∧ gx ≠ gy from ⟨(H17b.out.1.block gx (obj_lt HX.out.1)).trans HX.out.1, by have := obj_lt HX.out.1; have := H17.out.2.2.2.1.size; omega⟩)
       rw [← hW17, ← hgy]
       clear hW17 hgy hb17 hqy hzy
       by_cases hlt : ma < mb
       rotate_left
       · have il : ¬ (ma : Int) < (mb : Int) := by omega
         go_upto_region 22 with fail
         have HQF := jI (H16.out.1.three (w' := W17) (fun k hk => hk.2) H16.out.2.1 (fun k hk hk2 => (HBX.out.trans (H17b.out.1.mono HBX.out.size)).block k hk2) (HBX.out.trans (H17b.out.1.mono HBX.out.size)).size)
         have HB0 := jI (show Below w0.heap.size w0 W17 from H17.out.2.2.2.2.trans (H17b.out.2.1.mono H17.out.2.2.2.2.size))
         have HK2 := jI (show LK C w0 W17 Sr bk Q p dr kk qk from HK.out.1.more (H16b.out.trans ((HBX.out.trans (H17b.out.1.mono HBX.out.size)).mono H16b.out.size)))
         have CSv := jI (show ∀ W, Below W17.heap.size W17 W → Calls Tryz.prog 8 #[.pointer (some ⟨bk, 0, none⟩)] W fun e w' => e = .returned (.int .i64 (ma : Int)) ∧ W = w' from fun W hW => by have h := Saves_any (HK2.out.more hW).kb; rw [HK.out.2.1, if_neg hlt] at h; exact h)
         have hkp : kk.kept = sa := by rw [HK.out.2.2, if_neg hlt]
         have hmy := decS_may HGD.out.1
         have CLd := jI fun W (hW : Below W17.heap.size W17 W) => (HK2.out.more hW).load (by rw [hkp]; exact hmy.1) (by rw [hkp]; have := hmy.2.2.2; omega) sa hkp
         have hsm : SmallE 1000000 100000 sa.log.l := ⟨by have := (mayE_head (mayS_parts hmy.1).1).2.2.2.2.2; omega, fun e he => by have := fitM_iff.1 (mayE_fit (mayS_parts hmy.1).1 e he); omega⟩
         have CSS := jI (show ∀ W (q4 : Pl), Below W17.heap.size W17 W → Ents W (.slice q4.AL q4.nL q4.cL) sa.log.l → Ints W (.slice q4.AC q4.nC q4.cC) sa.conf → Bys W (.slice q4.AS q4.nS q4.cS) sa.snap → Calls Tryz.prog 19 #[.agg #[.int .i64 sa.term, .int .i64 sa.vote, .int .i64 sa.log.base, .int .i64 sa.log.term, .slice q4.AL q4.nL q4.cL, .slice q4.AC q4.nC q4.cC, .slice q4.AS q4.nS q4.cS], .agg #[.int .i64 sa.term, .int .i64 sa.vote, .int .i64 sa.log.base, .int .i64 sa.log.term, .slice qa.AL qa.nL qa.cL, .slice qa.AC qa.nC qa.cC, .slice qa.AS qa.nS qa.cS]] W fun y w' => y = .returned (.bool true) ∧ Below W.heap.size W w' from fun W q4 hW h1 h2 h3 => by
           have hst := HS.out.more (HB0.out.trans (hW.mono HB0.out.size))
           have h := sameStored_any sa q4 sa qa W ⟨hst.tab, hst.std.size⟩ h1 h2 h3 (HQF.out.1.below hW) (HQF.out.2.1.below hW) (HQF.out.2.2.below hW) hsm hsm
           rw [sameX_refl] at h
           exact h)
         clear hkp hmy hsm
         have hd0 : Below W17.heap.size W17 W17.drew := (Below.refl _ _).drew
         refine wp_region_held_drew (S := fun W => Below W17.heap.size W17 W) (by kernel_rfl) hd0 (fun hHeld => ?_)
         refine wpAnyH_take (i := 0) (oi := { dst := Option.some 107, op := Op.move (Operand.tmp 14), type := 27, pos := "law.go:272", after := #[], guard := Option.none }) (v := .nilIface) rfl (by kernel_rfl) (by kernel_rfl) (by kernel_rfl) (fun _ _ _ h => h) (Or.inl ⟨by rfl, ?_⟩) hHeld ?_
         · intro W hSw
           go_simp
         simp only [Act.put, qA, qB, qC]
         refine wpAnyH_take (i := 1) (oi := { dst := Option.some 108, op := Op.binOp BinOp.eql 27 (Operand.tmp 107) (Operand.const Value.nilIface) 27, type := 4, pos := "law.go:272", after := #[{ on := 0, ground := Ground.data }], guard := Option.none }) (v := .bool true) rfl (by kernel_rfl) (by kernel_rfl) (by kernel_rfl) (fun _ _ _ h => h) (Or.inl ⟨by rfl, ?_⟩) hHeld ?_
         · intro W hSw
           go_simp
         simp only [Act.put, qA, qB, qC]
         refine wpAnyH_take (i := 2) (oi := { dst := Option.some 109, op := Op.move (Operand.tmp 108), type := 4, pos := "law.go:272", after := #[{ on := 1, ground := Ground.data }], guard := Option.none }) (v := .bool true) rfl (by kernel_rfl) (by kernel_rfl) (by kernel_rfl) (fun _ _ _ h => h) (Or.inl ⟨by rfl, ?_⟩) hHeld ?_
         · intro W hSw
           go_simp
         simp only [Act.put, qA, qB, qC]
         refine wpAnyH_take (i := 3) (oi := { dst := Option.some 110, op := Op.move (Operand.tmp 13), type := 24, pos := "law.go:272", after := #[{ on := 2, ground := Ground.guard }], guard := Option.some (2, true) }) (v := .pointer (some ⟨bk, 0, none⟩)) rfl (by kernel_rfl) (by kernel_rfl) (by kernel_rfl) (fun _ _ _ h => h) (Or.inl ⟨by rfl, ?_⟩) hHeld ?_
         · intro W hSw
           go_simp
         simp only [Act.put, qA, qB, qC]
         refine wpAnyH_take (i := 4) (oi := { dst := Option.some 111, op := Op.binOp BinOp.neq 24 (Operand.tmp 110) (Operand.const (Value.pointer Option.none)) 24, type := 4, pos := "law.go:272", after := #[{ on := 3, ground := Ground.data }, { on := 2, ground := Ground.guard }], guard := Option.some (2, true) }) (v := .bool true) rfl (by kernel_rfl) (by kernel_rfl) (by kernel_rfl) (fun _ _ _ h => h) (Or.inl ⟨by rfl, ?_⟩) hHeld ?_
         · intro W hSw
           go_simp
         simp only [Act.put, qA, qB, qC]
         refine wpAnyH_take (i := 5) (oi := { dst := Option.some 112, op := Op.pick (Operand.tmp 109) (Operand.tmp 111) (Operand.const (Value.bool false)), type := 4, pos := "law.go:272", after := #[{ on := 2, ground := Ground.data }, { on := 4, ground := Ground.data }], guard := Option.none }) (v := .bool true) rfl (by kernel_rfl) (by kernel_rfl) (by kernel_rfl) (fun _ _ _ h => h) (Or.inl ⟨by rfl, ?_⟩) hHeld ?_
         · intro W hSw
           go_simp
         simp only [Act.put, qA, qB, qC]
         refine wpAnyH_take (i := 6) (oi := { dst := Option.some 113, op := Op.move (Operand.tmp 112), type := 4, pos := "law.go:272", after := #[{ on := 5, ground := Ground.data }, { on := 2, ground := Ground.chain }], guard := Option.none }) (v := .bool true) rfl (by kernel_rfl) (by kernel_rfl) (by kernel_rfl) (fun _ _ _ h => h) (Or.inl ⟨by rfl, ?_⟩) hHeld ?_
         · intro W hSw
           go_simp
         simp only [Act.put, qA, qB, qC]
         refine wpAnyH_take (i := 7) (oi := { dst := Option.some 114, op := Op.move (Operand.tmp 13), type := 24, pos := "law.go:272", after := #[{ on := 6, ground := Ground.guard }], guard := Option.some (6, true) }) (v := .pointer (some ⟨bk, 0, none⟩)) rfl (by kernel_rfl) (by kernel_rfl) (by kernel_rfl) (fun _ _ _ h => h) (Or.inl ⟨by rfl, ?_⟩) hHeld ?_
         · intro W hSw
           go_simp
         simp only [Act.put, qA, qB, qC]
         refine wpAnyH_take (i := 9) (oi := { dst := Option.some 116, op := Op.move (Operand.tmp 15), type := 3, pos := "law.go:272", after := #[{ on := 6, ground := Ground.guard }], guard := Option.some (6, true) }) (v := .int .i64 (ma : Int)) rfl (by kernel_rfl) (by kernel_rfl) (by kernel_rfl) (fun _ _ _ h => h) (Or.inl ⟨by rfl, ?_⟩) hHeld ?_
         · intro W hSw
           go_simp
         simp only [Act.put, qA, qB, qC]
         refine wpAnyH_ready (rs := [8]) (by kernel_rfl) (by simp) ?_
         refine AllReadyH.cons (o := { dst := Option.some 115, op := Op.call { callee := Callee.value (Operand.func 8), args := #[Operand.tmp 114], argTypes := #[24] }, type := 3, pos := "law.go:272", after := #[{ on := 7, ground := Ground.data }, { on := 6, ground := Ground.chain }, { on := 6, ground := Ground.guard }], guard := Option.some (6, true) }) rfl (fun K hK => ?_) AllReadyH.nil
         go_simp
         refine (CSv.out _ hd0).mono ?_
         rintro y1 w21 ⟨rfl, hw⟩
         subst hw
         refine hK.out _ _ hd0 (fun hHeld2 => ?_)
         clear hK K hHeld2
         refine wpAnyH_take (i := 10) (oi := { dst := Option.some 117, op := Op.binOp BinOp.eql 3 (Operand.tmp 115) (Operand.tmp 116) 3, type := 4, pos := "law.go:272", after := #[{ on := 8, ground := Ground.data }, { on := 9, ground := Ground.data }, { on := 6, ground := Ground.guard }], guard := Option.some (6, true) }) (v := .bool true) rfl (by kernel_rfl) (by kernel_rfl) (by kernel_rfl) (fun _ _ _ h => h) (Or.inl ⟨by rfl, ?_⟩) hHeld ?_
         · intro W hSw
           go_simp
         simp only [Act.put, qA, qB, qC]
         refine wpAnyH_take (i := 11) (oi := { dst := Option.some 118, op := Op.pick (Operand.tmp 113) (Operand.tmp 117) (Operand.const (Value.bool false)), type := 4, pos := "law.go:272", after := #[{ on := 6, ground := Ground.data }, { on := 10, ground := Ground.data }], guard := Option.none }) (v := .bool true) rfl (by kernel_rfl) (by kernel_rfl) (by kernel_rfl) (fun _ _ _ h => h) (Or.inl ⟨by rfl, ?_⟩) hHeld ?_
         · intro W hSw
           go_simp
         simp only [Act.put, qA, qB, qC]
         refine wpAnyH_take (i := 12) (oi := { dst := Option.some 119, op := Op.move (Operand.tmp 118), type := 4, pos := "law.go:272", after := #[{ on := 11, ground := Ground.data }, { on := 8, ground := Ground.chain }], guard := Option.none }) (v := .bool true) rfl (by kernel_rfl) (by kernel_rfl) (by kernel_rfl) (fun _ _ _ h => h) (Or.inl ⟨by rfl, ?_⟩) hHeld ?_
         · intro W hSw
           go_simp
         simp only [Act.put, qA, qB, qC]
         refine wpAnyH_take (i := 13) (oi := { dst := Option.some 120, op := Op.move (Operand.tmp 13), type := 24, pos := "law.go:272", after := #[{ on := 12, ground := Ground.guard }], guard := Option.some (12, true) }) (v := .pointer (some ⟨bk, 0, none⟩)) rfl (by kernel_rfl) (by kernel_rfl) (by kernel_rfl) (fun _ _ _ h => h) (Or.inl ⟨by rfl, ?_⟩) hHeld ?_
         · intro W hSw
           go_simp
         simp only [Act.put, qA, qB, qC]
         refine wpAnyH_take (i := 15) (oi := { dst := Option.some 122, op := Op.load 50 (Operand.tmp 16), type := 50, pos := "law.go:272", after := #[{ on := 12, ground := Ground.guard }], guard := Option.some (12, true) }) (v := .agg #[.int .i64 sa.term, .int .i64 sa.vote, .int .i64 sa.log.base, .int .i64 sa.log.term, .slice qa.AL qa.nL qa.cL, .slice qa.AC qa.nC qa.cC, .slice qa.AS qa.nS qa.cS]) rfl (by kernel_rfl) (by kernel_rfl) (by kernel_rfl) (fun _ _ _ h => h) (Or.inl ⟨by rfl, ?_⟩) hHeld ?_
         · intro W hSw
           obtain ⟨z0, z1, z2, z3, z4, z5, z6⟩ := cells7 ((hSw.block gx (obj_lt HXR.out.1)).trans HXR.out.1)
           go_simp
         simp only [Act.put, qA, qB, qC]
         refine wpAnyH_ready (rs := [14]) (by kernel_rfl) (by simp) ?_
         refine AllReadyH.cons (o := { dst := Option.some 121, op := Op.call { callee := Callee.value (Operand.func 9), args := #[Operand.tmp 120], argTypes := #[24] }, type := 35, pos := "law.go:272", after := #[{ on := 13, ground := Ground.data }, { on := 12, ground := Ground.chain }, { on := 12, ground := Ground.guard }], guard := Option.some (12, true) }) rfl (fun K hK => ?_) AllReadyH.nil
         go_simp
         refine (CLd.out _ hd0).mono ?_
         rintro y2 w22 ⟨q4, rfl, h4⟩
         have hb22 := hd0.trans h4.2.2.2
         refine hK.out _ _ hb22 (fun hHeld2 => ?_)
         have H22 := jI (jA h4 hb22)
         clear hK K hHeld hHeld2 h4
         have hHeld := hb22
         clear hb22
         refine wpAnyH_ready (rs := [16]) (by kernel_rfl) (by simp) ?_
         refine AllReadyH.cons (o := { dst := Option.some 123, op := Op.call { callee := Callee.value (Operand.func 19), args := #[Operand.tmp 121, Operand.tmp 122], argTypes := #[35, 50] }, type := 4, pos := "law.go:272", after := #[{ on := 14, ground := Ground.data }, { on := 15, ground := Ground.data }, { on := 14, ground := Ground.chain }, { on := 12, ground := Ground.guard }], guard := Option.some (12, true) }) rfl (fun K hK => ?_) AllReadyH.nil
         go_simp
         refine (CSS.out _ q4 H22.out.2 H22.out.1.1 H22.out.1.2.1 H22.out.1.2.2.1).mono ?_
         rintro y3 w23 ⟨rfl, hb23⟩
         have hb23 := H22.out.2.trans (hb23.mono H22.out.2.size)
         refine hK.out _ _ hb23 (fun hHeld2 => ?_)
         have H23 := jI hb23
         clear hK K hHeld hHeld2
         have hHeld := hb23
         clear hb23
         refine wpAnyH_take (i := 17) (oi := { dst := Option.some 124, op := Op.pick (Operand.tmp 119) (Operand.tmp 123) (Operand.const (Value.bool false)), type := 4, pos := "law.go:272", after := #[{ on := 12, ground := Ground.data }, { on := 16, ground := Ground.data }], guard := Option.none }) (v := .bool true) rfl (by kernel_rfl) (by kernel_rfl) (by kernel_rfl) (fun _ _ _ h => h) (Or.inl ⟨by rfl, ?_⟩) hHeld ?_
         · intro W hSw
           go_simp
         simp only [Act.put, qA, qB, qC]
         refine wpAnyH_take (i := 18) (oi := { dst := Option.some 125, op := Op.move (Operand.tmp 124), type := 4, pos := "law.go:272", after := #[{ on := 17, ground := Ground.data }, { on := 16, ground := Ground.chain }], guard := Option.none }) (v := .bool true) rfl (by kernel_rfl) (by kernel_rfl) (by kernel_rfl) (fun _ _ _ h => h) (Or.inl ⟨by rfl, ?_⟩) hHeld ?_
         · intro W hSw
           go_simp
         simp only [Act.put, qA, qB, qC]
         refine wpAnyH_ready (rs := [19]) (by kernel_rfl) (by simp) ?_
         refine AllReadyH.cons (o := { dst := Option.some 126, op := Op.call { callee := Callee.value (Operand.func 10), args := #[], argTypes := #[] }, type := 4, pos := "law.go:272", after := #[{ on := 18, ground := Ground.chain }, { on := 18, ground := Ground.guard }], guard := Option.some (18, true) }) rfl (fun K hK => ?_) AllReadyH.nil
         go_simp
         refine (CSU.out _ (HB0.out.trans (H23.out.mono HB0.out.size))).mono ?_
         rintro y4 w24 ⟨rfl, hb24⟩
         have hb24 := H23.out.trans (hb24.mono H23.out.size)
         refine hK.out _ _ hb24 (fun hHeld2 => ?_)
         have H24 := jI hb24
         clear hK K hHeld hHeld2
         have hHeld := hb24
         clear hb24
         refine wpAnyH_take (i := 20) (oi := { dst := Option.some 127, op := Op.pick (Operand.tmp 125) (Operand.tmp 126) (Operand.const (Value.bool false)), type := 4, pos := "law.go:272", after := #[{ on := 18, ground := Ground.data }, { on := 19, ground := Ground.data }], guard := Option.none }) (v := .bool true) rfl (by kernel_rfl) (by kernel_rfl) (by kernel_rfl) (fun _ _ _ h => h) (Or.inl ⟨by rfl, ?_⟩) hHeld ?_
         · intro W hSw
           go_simp
         simp only [Act.put, qA, qB, qC]
         refine wpAnyH_take (i := 21) (oi := { dst := Option.some 6, op := Op.assign (Operand.tmp 127), type := 4, pos := "law.go:272", after := #[{ on := 20, ground := Ground.data }, { on := 19, ground := Ground.chain }, { on := 0, ground := Ground.phase }, { on := 1, ground := Ground.phase }, { on := 2, ground := Ground.phase }, { on := 3, ground := Ground.phase }, { on := 4, ground := Ground.phase }, { on := 5, ground := Ground.phase }, { on := 6, ground := Ground.phase }, { on := 7, ground := Ground.phase }, { on := 8, ground := Ground.phase }, { on := 9, ground := Ground.phase }, { on := 10, ground := Ground.phase }, { on := 11, ground := Ground.phase }, { on := 12, ground := Ground.phase }, { on := 13, ground := Ground.phase }, { on := 14, ground := Ground.phase }, { on := 15, ground := Ground.phase }, { on := 16, ground := Ground.phase }, { on := 17, ground := Ground.phase }, { on := 18, ground := Ground.phase }, { on := 19, ground := Ground.phase }, { on := 20, ground := Ground.phase }], guard := Option.none }) (v := .bool true) rfl (by kernel_rfl) (by kernel_rfl) (by kernel_rfl) (fun _ _ _ h => h) (Or.inl ⟨by rfl, ?_⟩) hHeld ?_
         · intro W hSw
           go_simp
         simp only [Act.put, qA, qB, qC]
         clear hHeld
         refine wpAnyH_done (by kernel_rfl) ?_ _
         go_wp2_with fail
         go_ret
         exact ⟨rfl, HB0.out.trans (H24.out.mono HB0.out.size)⟩
       have il : (ma : Int) < (mb : Int) := by omega
       go_upto_region 21 with fail
       obtain ⟨x0, x1, x2, x3, x4, x5, x6⟩ := cells7 HXR.out.1
       obtain ⟨y0, y1, y2, y3, y4, y5, y6⟩ := cells7 H17b.out.2.2
       have fx0 := frozen_of_row W17 gx 0 _ _ HXR.out.1
       have fx1 := frozen_of_row W17 gx 1 _ _ HXR.out.1
       have fx2 := frozen_of_row W17 gx 2 _ _ HXR.out.1
       have fx3 := frozen_of_row W17 gx 3 _ _ HXR.out.1
       have fx4 := frozen_of_row W17 gx 4 _ _ HXR.out.1
       have fx5 := frozen_of_row W17 gx 5 _ _ HXR.out.1
       have fx6 := frozen_of_row W17 gx 6 _ _ HXR.out.1
       go_region
       obtain ⟨F0, hF0, hrow, hbF, hoth, hsz⟩ := put7d (.int .i64 sb.term) (.int .i64 sb.vote) (.int .i64 sb.log.base) (.int .i64 sb.log.term) (.slice qb.AL qb.nL qb.cL) (.slice qb.AC qb.nC qb.cC) (.slice qb.AS qb.nS qb.cS) HXR.out.1
       rw [← hF0]
       clear hF0
       obtain ⟨F, hF⟩ : ∃ F, F = F0.drew := ⟨_, rfl⟩
       rw [← hF]
       have HF := jI (show F.heap[gx]? = some (.cells #[.int .i64 sb.term, .int .i64 sb.vote, .int .i64 sb.log.base, .int .i64 sb.log.term, .slice qb.AL qb.nL qb.cL, .slice qb.AC qb.nC qb.cC, .slice qb.AS qb.nS qb.cS] 50 (0, 0)) ∧ Below gx W17 F ∧ (∀ k, k ≠ gx → F.heap[k]? = W17.heap[k]?) ∧ F.heap.size = W17.heap.size from by rw [hF]; exact ⟨hrow, hbF.drew, hoth, hsz⟩)
       clear hF hrow hbF hoth hsz x0 x1 x2 x3 x4 x5 x6 y0 y1 y2 y3 y4 y5 y6 fx0 fx1 fx2 fx3 fx4 fx5 fx6
       go_upto_region 22 with fail
       have HQF := jI (H17.out.1.three (w' := F) (fun k hk => hk.2) H17.out.2.1 (fun k hk hk2 => (HF.out.2.2.1 k (by have h1 := hk.1; have h2 := HX.out.2.1; have h3 := HB15.out.size; have h4 := obj_lt HX.out.1; omega)).trans (H17b.out.2.1.block k hk2)) (by have h1 := HF.out.2.2.2; have h2 := H17b.out.2.1.size; omega))
       have HB0 := jI (show Below w0.heap.size w0 F from (H17.out.2.2.2.2.trans (H17b.out.2.1.mono H17.out.2.2.2.2.size)).trans (HF.out.2.1.mono (by have := HX.out.2.1; have := HB15.out.size; omega)))
       have HK2 := jI (show LK C w0 F Sr bk Q p dr kk qk from HK.out.1.more ((H16b.out.trans ((HBX.out.trans (H17b.out.1.mono HBX.out.size)).mono H16b.out.size)).trans (HF.out.2.1.mono HX.out.2.1)))
       have CSv := jI (show ∀ W, Below F.heap.size F W → Calls Tryz.prog 8 #[.pointer (some ⟨bk, 0, none⟩)] W fun e w' => e = .returned (.int .i64 (mb : Int)) ∧ W = w' from fun W hW => by have h := Saves_any (HK2.out.more hW).kb; rw [HK.out.2.1, if_pos hlt] at h; exact h)
       have hkp : kk.kept = sb := by rw [HK.out.2.2, if_pos hlt]
       have hmy := decS_may HGD.out.2
       have CLd := jI fun W (hW : Below F.heap.size F W) => (HK2.out.more hW).load (by rw [hkp]; exact hmy.1) (by rw [hkp]; have := hmy.2.2.2; omega) sb hkp
       have hsm : SmallE 1000000 100000 sb.log.l := ⟨by have := (mayE_head (mayS_parts hmy.1).1).2.2.2.2.2; omega, fun e he => by have := fitM_iff.1 (mayE_fit (mayS_parts hmy.1).1 e he); omega⟩
       have CSS := jI (show ∀ W (q4 : Pl), Below F.heap.size F W → Ents W (.slice q4.AL q4.nL q4.cL) sb.log.l → Ints W (.slice q4.AC q4.nC q4.cC) sb.conf → Bys W (.slice q4.AS q4.nS q4.cS) sb.snap → Calls Tryz.prog 19 #[.agg #[.int .i64 sb.term, .int .i64 sb.vote, .int .i64 sb.log.base, .int .i64 sb.log.term, .slice q4.AL q4.nL q4.cL, .slice q4.AC q4.nC q4.cC, .slice q4.AS q4.nS q4.cS], .agg #[.int .i64 sb.term, .int .i64 sb.vote, .int .i64 sb.log.base, .int .i64 sb.log.term, .slice qb.AL qb.nL qb.cL, .slice qb.AC qb.nC qb.cC, .slice qb.AS qb.nS qb.cS]] W fun y w' => y = .returned (.bool true) ∧ Below W.heap.size W w' from fun W q4 hW h1 h2 h3 => by
         have hst := HS.out.more (HB0.out.trans (hW.mono HB0.out.size))
         have h := sameStored_any sb q4 sb qb W ⟨hst.tab, hst.std.size⟩ h1 h2 h3 (HQF.out.1.below hW) (HQF.out.2.1.below hW) (HQF.out.2.2.below hW) hsm hsm
         rw [sameX_refl] at h
         exact h)
       clear hkp hmy hsm
       have hd0 : Below F.heap.size F F.drew := (Below.refl _ _).drew
       refine wp_region_held_drew (S := fun W => Below F.heap.size F W) (by kernel_rfl) hd0 (fun hHeld => ?_)
       refine wpAnyH_take (i := 0) (oi := { dst := Option.some 107, op := Op.move (Operand.tmp 14), type := 27, pos := "law.go:272", after := #[], guard := Option.none }) (v := .nilIface) rfl (by kernel_rfl) (by kernel_rfl) (by kernel_rfl) (fun _ _ _ h => h) (Or.inl ⟨by rfl, ?_⟩) hHeld ?_
       · intro W hSw
         go_simp
       simp only [Act.put, qA, qB, qC]
       refine wpAnyH_take (i := 1) (oi := { dst := Option.some 108, op := Op.binOp BinOp.eql 27 (Operand.tmp 107) (Operand.const Value.nilIface) 27, type := 4, pos := "law.go:272", after := #[{ on := 0, ground := Ground.data }], guard := Option.none }) (v := .bool true) rfl (by kernel_rfl) (by kernel_rfl) (by kernel_rfl) (fun _ _ _ h => h) (Or.inl ⟨by rfl, ?_⟩) hHeld ?_
       · intro W hSw
         go_simp
       simp only [Act.put, qA, qB, qC]
       refine wpAnyH_take (i := 2) (oi := { dst := Option.some 109, op := Op.move (Operand.tmp 108), type := 4, pos := "law.go:272", after := #[{ on := 1, ground := Ground.data }], guard := Option.none }) (v := .bool true) rfl (by kernel_rfl) (by kernel_rfl) (by kernel_rfl) (fun _ _ _ h => h) (Or.inl ⟨by rfl, ?_⟩) hHeld ?_
       · intro W hSw
         go_simp
       simp only [Act.put, qA, qB, qC]
       refine wpAnyH_take (i := 3) (oi := { dst := Option.some 110, op := Op.move (Operand.tmp 13), type := 24, pos := "law.go:272", after := #[{ on := 2, ground := Ground.guard }], guard := Option.some (2, true) }) (v := .pointer (some ⟨bk, 0, none⟩)) rfl (by kernel_rfl) (by kernel_rfl) (by kernel_rfl) (fun _ _ _ h => h) (Or.inl ⟨by rfl, ?_⟩) hHeld ?_
       · intro W hSw
         go_simp
       simp only [Act.put, qA, qB, qC]
       refine wpAnyH_take (i := 4) (oi := { dst := Option.some 111, op := Op.binOp BinOp.neq 24 (Operand.tmp 110) (Operand.const (Value.pointer Option.none)) 24, type := 4, pos := "law.go:272", after := #[{ on := 3, ground := Ground.data }, { on := 2, ground := Ground.guard }], guard := Option.some (2, true) }) (v := .bool true) rfl (by kernel_rfl) (by kernel_rfl) (by kernel_rfl) (fun _ _ _ h => h) (Or.inl ⟨by rfl, ?_⟩) hHeld ?_
       · intro W hSw
         go_simp
       simp only [Act.put, qA, qB, qC]
       refine wpAnyH_take (i := 5) (oi := { dst := Option.some 112, op := Op.pick (Operand.tmp 109) (Operand.tmp 111) (Operand.const (Value.bool false)), type := 4, pos := "law.go:272", after := #[{ on := 2, ground := Ground.data }, { on := 4, ground := Ground.data }], guard := Option.none }) (v := .bool true) rfl (by kernel_rfl) (by kernel_rfl) (by kernel_rfl) (fun _ _ _ h => h) (Or.inl ⟨by rfl, ?_⟩) hHeld ?_
       · intro W hSw
         go_simp
       simp only [Act.put, qA, qB, qC]
       refine wpAnyH_take (i := 6) (oi := { dst := Option.some 113, op := Op.move (Operand.tmp 112), type := 4, pos := "law.go:272", after := #[{ on := 5, ground := Ground.data }, { on := 2, ground := Ground.chain }], guard := Option.none }) (v := .bool true) rfl (by kernel_rfl) (by kernel_rfl) (by kernel_rfl) (fun _ _ _ h => h) (Or.inl ⟨by rfl, ?_⟩) hHeld ?_
       · intro W hSw
         go_simp
       simp only [Act.put, qA, qB, qC]
       refine wpAnyH_take (i := 7) (oi := { dst := Option.some 114, op := Op.move (Operand.tmp 13), type := 24, pos := "law.go:272", after := #[{ on := 6, ground := Ground.guard }], guard := Option.some (6, true) }) (v := .pointer (some ⟨bk, 0, none⟩)) rfl (by kernel_rfl) (by kernel_rfl) (by kernel_rfl) (fun _ _ _ h => h) (Or.inl ⟨by rfl, ?_⟩) hHeld ?_
       · intro W hSw
         go_simp
       simp only [Act.put, qA, qB, qC]
       refine wpAnyH_take (i := 9) (oi := { dst := Option.some 116, op := Op.move (Operand.tmp 15), type := 3, pos := "law.go:272", after := #[{ on := 6, ground := Ground.guard }], guard := Option.some (6, true) }) (v := .int .i64 (mb : Int)) rfl (by kernel_rfl) (by kernel_rfl) (by kernel_rfl) (fun _ _ _ h => h) (Or.inl ⟨by rfl, ?_⟩) hHeld ?_
       · intro W hSw
         go_simp
       simp only [Act.put, qA, qB, qC]
       refine wpAnyH_ready (rs := [8]) (by kernel_rfl) (by simp) ?_
       refine AllReadyH.cons (o := { dst := Option.some 115, op := Op.call { callee := Callee.value (Operand.func 8), args := #[Operand.tmp 114], argTypes := #[24] }, type := 3, pos := "law.go:272", after := #[{ on := 7, ground := Ground.data }, { on := 6, ground := Ground.chain }, { on := 6, ground := Ground.guard }], guard := Option.some (6, true) }) rfl (fun K hK => ?_) AllReadyH.nil
       go_simp
       refine (CSv.out _ hd0).mono ?_
       rintro y1 w21 ⟨rfl, hw⟩
       subst hw
       refine hK.out _ _ hd0 (fun hHeld2 => ?_)
       clear hK K hHeld2
       refine wpAnyH_take (i := 10) (oi := { dst := Option.some 117, op := Op.binOp BinOp.eql 3 (Operand.tmp 115) (Operand.tmp 116) 3, type := 4, pos := "law.go:272", after := #[{ on := 8, ground := Ground.data }, { on := 9, ground := Ground.data }, { on := 6, ground := Ground.guard }], guard := Option.some (6, true) }) (v := .bool true) rfl (by kernel_rfl) (by kernel_rfl) (by kernel_rfl) (fun _ _ _ h => h) (Or.inl ⟨by rfl, ?_⟩) hHeld ?_
       · intro W hSw
         go_simp
       simp only [Act.put, qA, qB, qC]
       refine wpAnyH_take (i := 11) (oi := { dst := Option.some 118, op := Op.pick (Operand.tmp 113) (Operand.tmp 117) (Operand.const (Value.bool false)), type := 4, pos := "law.go:272", after := #[{ on := 6, ground := Ground.data }, { on := 10, ground := Ground.data }], guard := Option.none }) (v := .bool true) rfl (by kernel_rfl) (by kernel_rfl) (by kernel_rfl) (fun _ _ _ h => h) (Or.inl ⟨by rfl, ?_⟩) hHeld ?_
       · intro W hSw
         go_simp
       simp only [Act.put, qA, qB, qC]
       refine wpAnyH_take (i := 12) (oi := { dst := Option.some 119, op := Op.move (Operand.tmp 118), type := 4, pos := "law.go:272", after := #[{ on := 11, ground := Ground.data }, { on := 8, ground := Ground.chain }], guard := Option.none }) (v := .bool true) rfl (by kernel_rfl) (by kernel_rfl) (by kernel_rfl) (fun _ _ _ h => h) (Or.inl ⟨by rfl, ?_⟩) hHeld ?_
       · intro W hSw
         go_simp
       simp only [Act.put, qA, qB, qC]
       refine wpAnyH_take (i := 13) (oi := { dst := Option.some 120, op := Op.move (Operand.tmp 13), type := 24, pos := "law.go:272", after := #[{ on := 12, ground := Ground.guard }], guard := Option.some (12, true) }) (v := .pointer (some ⟨bk, 0, none⟩)) rfl (by kernel_rfl) (by kernel_rfl) (by kernel_rfl) (fun _ _ _ h => h) (Or.inl ⟨by rfl, ?_⟩) hHeld ?_
       · intro W hSw
         go_simp
       simp only [Act.put, qA, qB, qC]
       refine wpAnyH_take (i := 15) (oi := { dst := Option.some 122, op := Op.load 50 (Operand.tmp 16), type := 50, pos := "law.go:272", after := #[{ on := 12, ground := Ground.guard }], guard := Option.some (12, true) }) (v := .agg #[.int .i64 sb.term, .int .i64 sb.vote, .int .i64 sb.log.base, .int .i64 sb.log.term, .slice qb.AL qb.nL qb.cL, .slice qb.AC qb.nC qb.cC, .slice qb.AS qb.nS qb.cS]) rfl (by kernel_rfl) (by kernel_rfl) (by kernel_rfl) (fun _ _ _ h => h) (Or.inl ⟨by rfl, ?_⟩) hHeld ?_
       · intro W hSw
         obtain ⟨z0, z1, z2, z3, z4, z5, z6⟩ := cells7 ((hSw.block gx (obj_lt HF.out.1)).trans HF.out.1)
         go_simp
       simp only [Act.put, qA, qB, qC]
       refine wpAnyH_ready (rs := [14]) (by kernel_rfl) (by simp) ?_
       refine AllReadyH.cons (o := { dst := Option.some 121, op := Op.call { callee := Callee.value (Operand.func 9), args := #[Operand.tmp 120], argTypes := #[24] }, type := 35, pos := "law.go:272", after := #[{ on := 13, ground := Ground.data }, { on := 12, ground := Ground.chain }, { on := 12, ground := Ground.guard }], guard := Option.some (12, true) }) rfl (fun K hK => ?_) AllReadyH.nil
       go_simp
       refine (CLd.out _ hd0).mono ?_
       rintro y2 w22 ⟨q4, rfl, h4⟩
       have hb22 := hd0.trans h4.2.2.2
       refine hK.out _ _ hb22 (fun hHeld2 => ?_)
       have H22 := jI (jA h4 hb22)
       clear hK K hHeld hHeld2 h4
       have hHeld := hb22
       clear hb22
       refine wpAnyH_ready (rs := [16]) (by kernel_rfl) (by simp) ?_
       refine AllReadyH.cons (o := { dst := Option.some 123, op := Op.call { callee := Callee.value (Operand.func 19), args := #[Operand.tmp 121, Operand.tmp 122], argTypes := #[35, 50] }, type := 4, pos := "law.go:272", after := #[{ on := 14, ground := Ground.data }, { on := 15, ground := Ground.data }, { on := 14, ground := Ground.chain }, { on := 12, ground := Ground.guard }], guard := Option.some (12, true) }) rfl (fun K hK => ?_) AllReadyH.nil
       go_simp
       refine (CSS.out _ q4 H22.out.2 H22.out.1.1 H22.out.1.2.1 H22.out.1.2.2.1).mono ?_
       rintro y3 w23 ⟨rfl, hb23⟩
       have hb23 := H22.out.2.trans (hb23.mono H22.out.2.size)
       refine hK.out _ _ hb23 (fun hHeld2 => ?_)
       have H23 := jI hb23
       clear hK K hHeld hHeld2
       have hHeld := hb23
       clear hb23
       refine wpAnyH_take (i := 17) (oi := { dst := Option.some 124, op := Op.pick (Operand.tmp 119) (Operand.tmp 123) (Operand.const (Value.bool false)), type := 4, pos := "law.go:272", after := #[{ on := 12, ground := Ground.data }, { on := 16, ground := Ground.data }], guard := Option.none }) (v := .bool true) rfl (by kernel_rfl) (by kernel_rfl) (by kernel_rfl) (fun _ _ _ h => h) (Or.inl ⟨by rfl, ?_⟩) hHeld ?_
       · intro W hSw
         go_simp
       simp only [Act.put, qA, qB, qC]
       refine wpAnyH_take (i := 18) (oi := { dst := Option.some 125, op := Op.move (Operand.tmp 124), type := 4, pos := "law.go:272", after := #[{ on := 17, ground := Ground.data }, { on := 16, ground := Ground.chain }], guard := Option.none }) (v := .bool true) rfl (by kernel_rfl) (by kernel_rfl) (by kernel_rfl) (fun _ _ _ h => h) (Or.inl ⟨by rfl, ?_⟩) hHeld ?_
       · intro W hSw
         go_simp
       simp only [Act.put, qA, qB, qC]
       refine wpAnyH_ready (rs := [19]) (by kernel_rfl) (by simp) ?_
       refine AllReadyH.cons (o := { dst := Option.some 126, op := Op.call { callee := Callee.value (Operand.func 10), args := #[], argTypes := #[] }, type := 4, pos := "law.go:272", after := #[{ on := 18, ground := Ground.chain }, { on := 18, ground := Ground.guard }], guard := Option.some (18, true) }) rfl (fun K hK => ?_) AllReadyH.nil
       go_simp
       refine (CSU.out _ (HB0.out.trans (H23.out.mono HB0.out.size))).mono ?_
       rintro y4 w24 ⟨rfl, hb24⟩
       have hb24 := H23.out.trans (hb24.mono H23.out.size)
       refine hK.out _ _ hb24 (fun hHeld2 => ?_)
       have H24 := jI hb24
       clear hK K hHeld hHeld2
       have hHeld := hb24
       clear hb24
       refine wpAnyH_take (i := 20) (oi := { dst := Option.some 127, op := Op.pick (Operand.tmp 125) (Operand.tmp 126) (Operand.const (Value.bool false)), type := 4, pos := "law.go:272", after := #[{ on := 18, ground := Ground.data }, { on := 19, ground := Ground.data }], guard := Option.none }) (v := .bool true) rfl (by kernel_rfl) (by kernel_rfl) (by kernel_rfl) (fun _ _ _ h => h) (Or.inl ⟨by rfl, ?_⟩) hHeld ?_
       · intro W hSw
         go_simp
       simp only [Act.put, qA, qB, qC]
       refine wpAnyH_take (i := 21) (oi := { dst := Option.some 6, op := Op.assign (Operand.tmp 127), type := 4, pos := "law.go:272", after := #[{ on := 20, ground := Ground.data }, { on := 19, ground := Ground.chain }, { on := 0, ground := Ground.phase }, { on := 1, ground := Ground.phase }, { on := 2, ground := Ground.phase }, { on := 3, ground := Ground.phase }, { on := 4, ground := Ground.phase }, { on := 5, ground := Ground.phase }, { on := 6, ground := Ground.phase }, { on := 7, ground := Ground.phase }, { on := 8, ground := Ground.phase }, { on := 9, ground := Ground.phase }, { on := 10, ground := Ground.phase }, { on := 11, ground := Ground.phase }, { on := 12, ground := Ground.phase }, { on := 13, ground := Ground.phase }, { on := 14, ground := Ground.phase }, { on := 15, ground := Ground.phase }, { on := 16, ground := Ground.phase }, { on := 17, ground := Ground.phase }, { on := 18, ground := Ground.phase }, { on := 19, ground := Ground.phase }, { on := 20, ground := Ground.phase }], guard := Option.none }) (v := .bool true) rfl (by kernel_rfl) (by kernel_rfl) (by kernel_rfl) (fun _ _ _ h => h) (Or.inl ⟨by rfl, ?_⟩) hHeld ?_
       · intro W hSw
         go_simp
       simp only [Act.put, qA, qB, qC]
       clear hHeld
       refine wpAnyH_done (by kernel_rfl) ?_ _
       go_wp2_with fail
       go_ret
       exact ⟨rfl, HB0.out.trans (H24.out.mono HB0.out.size)⟩
end
end
end Go.Proofs.YtncaefocijainaaGreatDoor.pk
