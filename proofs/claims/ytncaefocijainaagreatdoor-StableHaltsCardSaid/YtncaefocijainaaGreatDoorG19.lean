import Derived.Test.YtncaefocijainaaGreatDoorG18
import Derived.StillTailTactics
import Derived.Outline
namespace Go.Proofs.YtncaefocijainaaGreatDoor.pk
open Go Go.RowKit
set_option maxRecDepth 100000
section
def SQ (S : Nat → Prop) (q : Nat) : Nat → Prop := fun k => S k ∨ k = q
section
variable {C : ConD} {w w' : World} {S S' : Nat → Prop} {q p : Nat} {d d' : Dk} {t : Tm}
theorem frame_set (h : C.DK w S p d) (hq : ¬ S q) (j : Nat) (v : Value) : C.DK (w.setCell ⟨q, j, none⟩ v) S p d :=
 C.frame h fun k hk => by
   have : k ≠ q := fun e => hq (e ▸ hk)
   simp [World.setCell, Array.getElem?_modify, Ne.symm this]
theorem Tp.turn (h : Tp C w S q p d t) (hd : C.DK w' S' p d') (ht : Turn S S' w w') (hl : d'.B.length = d.B.length) : Tp C w' S' q p d' t :=
 ⟨hd, by unfold TBox; rw [ht.kept.block q h.box.lt h.out]; exact h.box, fun hs => by
   rcases ht.new q hs with h1 | h1
   · exact h.out h1
   · have := h.box.lt; omega, by rw [hl]; exact h.dis, h.five, h.fin, h.num⟩
theorem turn_set (q j : Nat) (v : Value) : Turn (SQ S q) (SQ S q) w (w.setCell ⟨q, j, none⟩ v) :=
 ⟨⟨rfl, rfl, rfl, by simp [World.setCell], fun k _ hn => by
   have : k ≠ q := fun e => hn (Or.inr e)
   simp [World.setCell, Array.getElem?_modify, Ne.symm this]⟩, fun _ hk => Or.inl hk⟩
theorem Tp.setDead (h : Tp C w S q p d t) (e : Nat) : Tp C (w.setCell ⟨q, 5, none⟩ (er e)) S q p d { t with dead := e } :=
 ⟨frame_set h.dk h.out _ _, by have := h.box; unfold TBox at this ⊢; simp [World.setCell, Array.getElem?_modify, this], h.out, h.dis, h.five, h.fin, h.num⟩
theorem Tp.setFin (h : Tp C w S q p d t) (f n : Nat) (hf : f ≤ t.len) (hn : n ≤ f) : Tp C ((w.setCell ⟨q, 3, none⟩ (.int .i64 (f : Int))).setCell ⟨q, 4, none⟩ (.int .i64 (n : Int))) S q p d { t with fin := f, n := n } :=
 ⟨frame_set (frame_set h.dk h.out _ _) h.out _ _, by have := h.box; unfold TBox at this ⊢; simp [World.setCell, Array.getElem?_modify, this], h.out, h.dis, h.five, hf, hn⟩
theorem turn_sq (ht : Turn S S' w w') (q : Nat) : Turn (SQ S q) (SQ S' q) w w' :=
 ⟨ht.kept.mono fun _ => Or.inl, fun k hk => by
   rcases hk with hk | hk
   · rcases ht.new k hk with h1 | h1
     · exact Or.inl (Or.inl h1)
     · exact Or.inr h1
   · exact Or.inl (Or.inr hk)⟩
set_option maxHeartbeats 1000000 in
theorem write_any (h : Tp C w S q p d t) (k : Nat) (hk : k ≤ 4194304) (hL : d.L.length < 100000) (A : Option Addr) (m c : Nat) (x : List UInt8) (hx : SlT w (Av w S) (.slice A m c) x) :
   Calls Tryz.prog 51 #[.pointer (some ⟨q, 0, none⟩), .int .i64 (k : Int), .slice A m c] w fun r w' => ∃ S', r = .returned (er (chainS (putS (t.at_ + k) x d) syncS).2) ∧
     Tp C w' S' q p (chainS (putS (t.at_ + k) x d) syncS).1 { t with dead := (chainS (putS (t.at_ + k) x d) syncS).2 } ∧ Turn (SQ S q) (SQ S' q) w w' := by
 obtain ⟨c0, c1, -, -, -, -, -⟩ := h.box.cells
 have hsz := h.sizes
 have g1 : (t.at_ : Int) ≤ 4194304 := by omega
 have iw : IntKind.i64.wrap ((t.at_ : Int) + (k : Int)) = (t.at_ : Int) + (k : Int) := IntWalk.i64_in _ (by omega)
 have hx' : SlT w.drew (Av w.drew S) (.slice A m c) x := hx
 have cw := C.cWrite w.drew S p d ((t.at_ : Int) + (k : Int)) A m c x (C.frame h.dk fun _ _ => rfl) (by unfold inI; omega) hL hx'
 have e1 : putS (t.at_ + k) x d = (putD d ((t.at_ : Int) + (k : Int)) x, putE d ((t.at_ : Int) + (k : Int)) x) := by
   unfold putS
   rw [show ((t.at_ + k : Nat) : Int) = (t.at_ : Int) + (k : Int) by omega]
 rw [e1]
 have hpl := putD_len d ((t.at_ : Int) + (k : Int)) x
 have hok := (C.ok h.dk).1
 have H := jI h
 generalize hpe : putE d ((t.at_ : Int) + (k : Int)) x = pe at cw ⊢
 generalize hpd : putD d ((t.at_ : Int) + (k : Int)) x = pd at cw hpl ⊢
 have hpok : pd.Ok := by rw [← hpd]; exact putD_ok hok _ _
 have CW := jI cw
 have HP := jI (jA hpl hpok)
 clear h hx hx' cw hsz e1 hpl hpe hpd hok hpok
 by_cases h0 : pe = 0
 · subst h0
   show Calls _ _ _ _ fun r w' => ∃ S', r = .returned (er (syncS pd).2) ∧ Tp C w' S' q p (syncS pd).1 { t with dead := (syncS pd).2 } ∧ Turn (SQ S q) (SQ S' q) w w'
   have hsl := syncD_len HP.out.2
   have hE : (syncS pd).2 = syncE pd := rfl
   have hD : (syncS pd).1 = syncD pd := rfl
   rw [hE, hD]
   have HS := jI (hsl.trans HP.out.1)
   clear hsl hE hD
   have cs := fun (W : World) (S2 : Nat → Prop) (hd : C.DK W S2 p pd) => C.cSync W S2 p pd hd
   by_cases hs0 : syncE pd = 0
   · rw [hs0, er_zero] at cs
     rw [hs0]
     have CS := jI cs
     clear cs hs0
     go_enter Tryz.func51, Tryz.ntmps51
     go_wp2_with fail
     go_still_tail 12, (by kernel_rfl)
     change wpList _ _ _ _ _ w.drew
     clear c0 c1
     go_upto_region 3 with (go_at_call 92; go_must (refine CW.out.mono ?_; rintro y w2 ⟨S2, rfl, h2, ht2⟩; rw [er_zero]; have T2 := jI (jA (H.out.turn h2 ht2.undrew HP.out.1) ht2.undrew); clear h2 ht2; obtain ⟨c0, -, -, -, -, -, -⟩ := T2.out.1.box.cells))
     go_upto_region 4 with (go_at_call 93; go_must (refine (CS.out w2 S2 T2.out.1.dk).mono ?_; rintro y w3 ⟨S3, rfl, h3, ht3⟩; have T3 := jI (jA (T2.out.1.turn h3 ht3 (HS.out.trans HP.out.1.symm)) (T2.out.2.trans ht3)); clear h3 ht3))
     obtain ⟨-, -, -, -, -, c5, cf⟩ := T3.out.1.box.cells
     have f5 := cf 5
     clear cf c0
     go_wp2_with fail
     go_ret
     exact ⟨S3, rfl, T3.out.1.setDead 0, (turn_sq T3.out.2 q).trans (turn_set _ _ _)⟩
   · have hE := er_ne hs0
     have HE := jI hE
     rw [hE] at cs
     rw [hE]
     have CS := jI cs
     clear cs hs0 hE
     go_enter Tryz.func51, Tryz.ntmps51
     go_wp2_with fail
     go_still_tail 12, (by kernel_rfl)
     change wpList _ _ _ _ _ w.drew
     clear c0 c1
     go_upto_region 3 with (go_at_call 92; go_must (refine CW.out.mono ?_; rintro y w2 ⟨S2, rfl, h2, ht2⟩; rw [er_zero]; have T2 := jI (jA (H.out.turn h2 ht2.undrew HP.out.1) ht2.undrew); clear h2 ht2; obtain ⟨c0, -, -, -, -, -, -⟩ := T2.out.1.box.cells))
     go_upto_region 4 with (go_at_call 93; go_must (refine (CS.out w2 S2 T2.out.1.dk).mono ?_; rintro y w3 ⟨S3, rfl, h3, ht3⟩; have T3 := jI (jA (T2.out.1.turn h3 ht3 (HS.out.trans HP.out.1.symm)) (T2.out.2.trans ht3)); clear h3 ht3))
     obtain ⟨-, -, -, -, -, c5, cf⟩ := T3.out.1.box.cells
     have f5 := cf 5
     clear cf c0
     go_wp2_with fail
     go_ret
     have hsd := T3.out.1.setDead (syncE pd)
     rw [HE.out] at hsd
     exact ⟨S3, rfl, hsd, (turn_sq T3.out.2 q).trans (turn_set _ _ _)⟩
 · have e2 : chainS (pd, pe) syncS = (pd, pe) := if_neg h0
   rw [e2]
   show Calls _ _ _ _ fun r w' => ∃ S', r = .returned (er pe) ∧ Tp C w' S' q p pd { t with dead := pe } ∧ Turn (SQ S q) (SQ S' q) w w'
   have hE := er_ne h0
   have HE := jI hE
   rw [hE] at CW
   rw [hE]
   clear e2 hE h0
   go_enter Tryz.func51, Tryz.ntmps51
   go_wp2_with fail
   go_still_tail 12, (by kernel_rfl)
   change wpList _ _ _ _ _ w.drew
   clear c0 c1
   go_upto_region 3 with (go_at_call 92; go_must (refine CW.out.mono ?_; rintro y w2 ⟨S2, rfl, h2, ht2⟩; have T2 := jI (jA (H.out.turn h2 ht2.undrew HP.out.1) ht2.undrew); clear h2 ht2; obtain ⟨-, -, -, -, -, c5, cf⟩ := T2.out.1.box.cells; have f5 := cf 5; clear cf))
   go_wp2_with fail
   go_ret
   have hsd := T2.out.1.setDead pe
   rw [HE.out] at hsd
   exact ⟨S2, rfl, hsd, (turn_sq T2.out.2 q).trans (turn_set _ _ _)⟩
end
end
section
section
variable {C : ConD} {w w' : World} {S S' : Nat → Prop} {q p : Nat} {d d' : Dk} {t : Tm}
theorem Tp.more (h : Tp C w S q p d t) (hb : Below w.heap.size w w') : Tp C w' S q p d t :=
 h.turn (C.frame h.dk fun k hk => hb.block k (C.foot h.dk k hk)) (Turn.of_below hb) rfl
theorem chain_calm (d : Dk) (k : Nat) (x : List UInt8) (h : (chainS (putS k x d) syncS).2 = 0) : (chainS (putS k x d) syncS).1.L = [] := by
 unfold chainS putS syncS at h ⊢
 by_cases h0 : putE d (k : Int) x = 0
 · rw [if_pos h0] at h ⊢
   have h1 : syncE (putD d k x) = 0 := h
   show (syncD (putD d k x)).L = []
   unfold syncE at h1
   unfold syncD
   by_cases ho : (putD d (k : Int) x).off = true
   · rw [if_pos ho] at h1; omega
   · rw [if_neg ho] at h1 ⊢
     rw [if_pos h1]
 · rw [if_neg h0] at h
   exact absurd h h0
theorem lit_av (h : Tp C w S q p d t) (k : Nat) (hk : k < 256 := by omega) : SlT (w.alloc (.cells #[.int .u8 (k : Int)] 5)) (Av (w.alloc (.cells #[.int .u8 (k : Int)] 5)) S) (.slice (some ⟨w.heap.size, 0, none⟩) 1 1) [UInt8.ofNat k] := by
 have hs : ¬ S w.heap.size := fun hs => Nat.lt_irrefl _ (C.foot h.dk _ hs)
 refine ⟨some ⟨w.heap.size, 0, none⟩, 1, rfl, Nat.le_refl _, by omega, Or.inr ⟨w.heap.size, 0, rfl, ⟨by rw [World.size_alloc]; omega, hs⟩, fun j hj => ?_⟩⟩
 obtain rfl : j = 0 := by simp at hj; omega
 rw [cell_of_row _ w.heap.size _ _ _ (0, 0) (heap_alloc_new w _)]
 simp
 omega
set_option maxHeartbeats 4000000 in
theorem Append_go (h : Tp C w S q p d t) (hd : t.dead = 0) (hL : d.L.length < 99990) (A : Option Addr) (c : Nat) (b : List UInt8) (hm : b.length ≤ 1048576) (hr : t.fin + 5 + b.length ≤ t.len) (hx : SlT w (Av w (SQ S q)) (.slice A b.length c) b) :
   Calls Tryz.prog 24 #[.pointer (some ⟨q, 0, none⟩), .slice A b.length c] w fun r w' => ∃ S', r = .returned (er (appS d t b).2) ∧ Tp C w' S' q p (appS d t b).1 (appT t b (appS d t b).2) ∧ Turn (SQ S q) (SQ S' q) w w' := by
 obtain ⟨-, -, -, -, -, c5, -⟩ := h.box.cells
 rw [hd] at c5
 have c5' : w.cell? ⟨q, 5, none⟩ = some .nilIface := c5
 have hs := h.sizes
 have hf := h.fin
 have hnum := h.num
 have hR := Room_any h.box (by omega) (by omega)
 rw [show roomZ ((t.len : Int) - t.fin) = (t.len : Int) - t.fin - 5 from if_neg (by omega)] at hR
 obtain ⟨m, hme⟩ : ∃ m, m = b.length := ⟨_, rfl⟩
 have HM := jI hme
 rw [← hme] at hm hr ⊢
 rw [← hme] at hx
 obtain ⟨l, hl⟩ : ∃ l, l = t.len := ⟨_, rfl⟩
 obtain ⟨f, hfe⟩ : ∃ f, f = t.fin := ⟨_, rfl⟩
 obtain ⟨n, hn⟩ : ∃ n, n = t.n := ⟨_, rfl⟩
 rw [← hl, ← hfe] at hR hr hf
 rw [← hfe, ← hn] at hnum
 rw [← hl] at hs
 have g1 : (m : Int) ≤ 1048576 := by omega
 have g2 : (l : Int) ≤ 4194304 := by omega
 have g3 : (f : Int) + 5 + (m : Int) ≤ (l : Int) := by omega
 have g4 : (n : Int) ≤ 4194304 := by omega
 have g5 : ¬ (l : Int) - (f : Int) - 5 < (m : Int) := by omega
 have iw1 : IntKind.i64.wrap ((f : Int) + 5) = (f : Int) + 5 := IntWalk.i64_in _ (by omega)
 have iw2 : IntKind.i64.wrap ((f : Int) + 5 + (m : Int)) = (f : Int) + 5 + (m : Int) := IntWalk.i64_in _ (by omega)
 obtain ⟨z, hz⟩ : ∃ z : Bool, z = decide (f + 5 + m + 5 ≤ l) := ⟨_, rfl⟩
 obtain ⟨rz, hrz⟩ : ∃ rz : Int, rz = roomZ ((l : Int) - ((f : Int) + 5 + (m : Int))) := ⟨_, rfl⟩
 have hzz : decide (0 ≤ rz) = z := by
   rw [hz, hrz]
   unfold roomZ
   by_cases h5 : f + 5 + m + 5 ≤ l
   · rw [if_neg (by omega)]; simp only [decide_eq_decide]; omega
   · rw [if_pos (by omega)]; simp only [decide_eq_decide]; omega
 have RZ := jI hrz.symm
 have hWx : be4 b.length ++ (b ++ if z = true then [0] else []) = appW t b := by
   unfold appW
   rw [← hfe, ← hl, ← hme, hz]
   by_cases h5 : f + 5 + m + 5 ≤ l
   · simp [h5]
   · simp [h5]
 have ef : ((f + 1 : Nat) : Int) = (f : Int) + 1 := by omega
 have eS : appS d t b = chainS (chainS (chainS (putS (t.at_ + (f + 1)) (appW t b) d) syncS) (putS (t.at_ + f) [1])) syncS := by rw [hfe]; rfl
 have hcalm := chain_calm d (t.at_ + (f + 1)) (appW t b)
 obtain ⟨X, hXe⟩ : ∃ X, X = chainS (putS (t.at_ + (f + 1)) (appW t b) d) syncS := ⟨_, rfl⟩
 rw [← hXe] at eS hcalm
 obtain ⟨d1, e1⟩ := X
 obtain ⟨X2, hX2⟩ : ∃ X, X = chainS (putS (t.at_ + f) [1] d1) syncS := ⟨_, rfl⟩
 obtain ⟨d2, e2⟩ := X2
 have hlast : ∀ (W : World) (S2 : Nat → Prop), Tp C W S2 q p d2 { t with dead := 0 } → Turn (SQ S q) (SQ S2 q) w W → Tp C ((W.setCell ⟨q, 3, none⟩ (.int .i64 ((f : Int) + 5 + (m : Int)))).setCell ⟨q, 4, none⟩ (.int .i64 ((n : Int) + 1))) S2 q p d2 (appT t b 0) ∧ Turn (SQ S q) (SQ S2 q) w ((W.setCell ⟨q, 3, none⟩ (.int .i64 ((f : Int) + 5 + (m : Int)))).setCell ⟨q, 4, none⟩ (.int .i64 ((n : Int) + 1))) := fun W S2 hT hTu => by
   have h1 := hT.setFin (f + 5 + m) (n + 1) (by show _ ≤ t.len; omega) (by omega)
   have x1 : ((f + 5 + m : Nat) : Int) = (f : Int) + 5 + (m : Int) := by omega
   have x2 : ((n + 1 : Nat) : Int) = (n : Int) + 1 := by omega
   rw [x1, x2] at h1
   refine ⟨?_, (hTu.trans (turn_set _ _ _)).trans (turn_set _ _ _)⟩
   have x3 : appT t b 0 = { { t with dead := 0 } with fin := f + 5 + m, n := n + 1 } := by
     unfold appT
     rw [if_pos rfl, hfe, hn, hme]
     have : t = { t with dead := 0 } := by cases t; simp only at hd; subst hd; rfl
     conv => lhs; rw [this]
   rw [x3]
   exact h1
 have HLAST := jI hlast
 have HWX := jI hWx
 have HXE := jI (jA hXe hX2)
 have HCALM := jI hcalm
 have H := jI h
 have HX := jI hx
 have HR := jI hR
 have HT := jI (jA hl (jA hfe (jA hn hL)))
 clear h hd c5 hs hf hR hnum hx hme hl hfe hn hL hz hrz hWx hXe hX2 hcalm hlast
 by_cases h0 : e1 = 0
 · subst h0
   have eS1 : appS d t b = (d2, e2) := by rw [eS, show chainS (chainS (d1, 0) (putS (t.at_ + f) [1])) syncS = chainS (putS (t.at_ + f) [1] d1) syncS from rfl, ← HXE.out.2]
   rw [eS1]
   show Calls _ _ _ _ fun r w' => ∃ S', r = .returned (er e2) ∧ Tp C w' S' q p d2 (appT t b e2) ∧ Turn (SQ S q) (SQ S' q) w w'
   clear eS eS1
   have E1 : er (d1, 0).2 = .nilIface := rfl
   by_cases h2 : e2 = 0
   · subst h2
     have E2 : er (d2, 0).2 = .nilIface := rfl
     rw [er_zero]
     go_enter Tryz.func24, Tryz.ntmps24
     go_upto_region 9 with (go_at_call 30; go_must (refine HR.out.mono ?_; rintro y w1 ⟨rfl, hb⟩; have T1 := jI (jA (H.out.more hb) (jA hb (HX.out.turn (turn_sq (Turn.of_below hb) q)))); clear hb))
     obtain ⟨-, -, c2, c3, -, -, -⟩ := T1.out.1.box.cells
     rw [← HT.out.1] at c2
     rw [← HT.out.2.1] at c3
     clear c5'
     go_quiet (fail)
     have T2 := jI (fun k => jA (T1.out.1.more (below_drewN w1 k)) (jA (T1.out.2.1.trans ((below_drewN w1 k).mono T1.out.2.1.size)) (T1.out.2.2.turn (turn_sq (Turn.of_below (below_drewN w1 k)) q))))
     go_upto_region 11 with (first
       | (go_at_call 53; go_must (refine (room_any _ _ (by omega) (by omega)).mono ?_; rintro y w3 ⟨rfl, rfl⟩; rw [RZ.out]))
       | (go_at_call 52; go_must (refine (body_any _ A c m b z _ (T2.out _).2.2 (by have := HM.out; omega)).mono ?_; rintro y w4 ⟨v, rfl, hv, hb⟩; obtain ⟨A4, n4, c4, rfl⟩ := hv.form; rw [HWX.out] at hv; have T4 := jI (jA ((T2.out nq).1.more hb) (jA (SlT.mono hv (fun k hk => (⟨hk.2, fun hs => Nat.lt_irrefl k (Nat.lt_of_lt_of_le (C.foot (T2.out nq).1.dk k hs) hk.1)⟩ : Av w4 S k))) ((T2.out nq).2.1.trans (hb.mono (T2.out nq).2.1.size)))); clear hv hb))
       | (go_at_call 51; go_must (have cw := write_any T4.out.1 (f + 1) (by omega) (by have := HT.out.2.2.2; omega) A4 n4 c4 (appW t b) T4.out.2.1; rw [← HXE.out.1, ef] at cw; refine cw.mono ?_; rintro y w5 ⟨S5, rfl, h5, ht5⟩; rw [E1]; have T5 := jI (jA h5 ((Turn.of_below T4.out.2.2).trans ht5)); clear h5 ht5 cw)))
     clear c2 c3
     go_wp2_with (go_at_call 51; go_must (have hal := T5.out.1.more ((Below.refl w5.heap.size w5).alloc (Nat.le_refl _) (.cells #[.int .u8 1] 5)); have cw := write_any hal f (by omega) (by show d1.L.length < _; rw [HCALM.out (by trivial)]; exact (by decide : 0 < 100000)) _ 1 1 [1] (lit_av T5.out.1 1); rw [← HXE.out.2] at cw; refine cw.mono ?_; rintro y w6 ⟨S6, rfl, h6, ht6⟩; rw [E2]; have T6 := jI (jA h6 (T5.out.2.trans ((Turn.of_below ((Below.refl w5.heap.size w5).alloc (Nat.le_refl _) _)).trans ht6))); clear h6 ht6 cw hal; obtain ⟨-, -, -, c3, c4, -, cf⟩ := T6.out.1.box.cells; have c4' : w6.cell? ⟨q, 4, none⟩ = some (.int .i64 (n : Int)) := (by rw [HT.out.2.2.1]; exact c4); have f3 := cf 3; have f4 := cf 4; clear cf c4))
     go_ret
     exact ⟨S6, rfl, HLAST.out w6 S6 T6.out.1 T6.out.2⟩
   · have eT : appT t b e2 = { t with dead := e2 } := if_neg h2
     have hE := er_ne h2
     have E2 : er (d2, e2).2 = .iface 69 (.int .i64 (e2 : Int)) := hE
     rw [hE, eT]
     clear hE eT h2
     go_enter Tryz.func24, Tryz.ntmps24
     go_upto_region 9 with (go_at_call 30; go_must (refine HR.out.mono ?_; rintro y w1 ⟨rfl, hb⟩; have T1 := jI (jA (H.out.more hb) (jA hb (HX.out.turn (turn_sq (Turn.of_below hb) q)))); clear hb))
     obtain ⟨-, -, c2, c3, -, -, -⟩ := T1.out.1.box.cells
     rw [← HT.out.1] at c2
     rw [← HT.out.2.1] at c3
     clear c5'
     go_quiet (fail)
     have T2 := jI (fun k => jA (T1.out.1.more (below_drewN w1 k)) (jA (T1.out.2.1.trans ((below_drewN w1 k).mono T1.out.2.1.size)) (T1.out.2.2.turn (turn_sq (Turn.of_below (below_drewN w1 k)) q))))
     go_upto_region 11 with (first
       | (go_at_call 53; go_must (refine (room_any _ _ (by omega) (by omega)).mono ?_; rintro y w3 ⟨rfl, rfl⟩; rw [RZ.out]))
       | (go_at_call 52; go_must (refine (body_any _ A c m b z _ (T2.out _).2.2 (by have := HM.out; omega)).mono ?_; rintro y w4 ⟨v, rfl, hv, hb⟩; obtain ⟨A4, n4, c4, rfl⟩ := hv.form; rw [HWX.out] at hv; have T4 := jI (jA ((T2.out nq).1.more hb) (jA (SlT.mono hv (fun k hk => (⟨hk.2, fun hs => Nat.lt_irrefl k (Nat.lt_of_lt_of_le (C.foot (T2.out nq).1.dk k hs) hk.1)⟩ : Av w4 S k))) ((T2.out nq).2.1.trans (hb.mono (T2.out nq).2.1.size)))); clear hv hb))
       | (go_at_call 51; go_must (have cw := write_any T4.out.1 (f + 1) (by omega) (by have := HT.out.2.2.2; omega) A4 n4 c4 (appW t b) T4.out.2.1; rw [← HXE.out.1, ef] at cw; refine cw.mono ?_; rintro y w5 ⟨S5, rfl, h5, ht5⟩; rw [E1]; have T5 := jI (jA h5 ((Turn.of_below T4.out.2.2).trans ht5)); clear h5 ht5 cw)))
     clear c2 c3
     go_wp2_with (go_at_call 51; go_must (have hal := T5.out.1.more ((Below.refl w5.heap.size w5).alloc (Nat.le_refl _) (.cells #[.int .u8 1] 5)); have cw := write_any hal f (by omega) (by show d1.L.length < _; rw [HCALM.out (by trivial)]; exact (by decide : 0 < 100000)) _ 1 1 [1] (lit_av T5.out.1 1); rw [← HXE.out.2] at cw; refine cw.mono ?_; rintro y w6 ⟨S6, rfl, h6, ht6⟩; rw [E2]; have T6 := jI (jA h6 (T5.out.2.trans ((Turn.of_below ((Below.refl w5.heap.size w5).alloc (Nat.le_refl _) _)).trans ht6))); clear h6 ht6 cw hal))
     go_wp2_with fail
     go_ret
     exact ⟨S6, rfl, T6.out.1, T6.out.2⟩
 · have eS1 : appS d t b = (d1, e1) := by
     rw [eS]
     have x1 : chainS (d1, e1) (putS (t.at_ + f) [1]) = (d1, e1) := if_neg h0
     rw [x1]
     exact if_neg h0
   rw [eS1]
   have eT : appT t b e1 = { t with dead := e1 } := if_neg h0
   have hE := er_ne h0
   have E1 : er (d1, e1).2 = .iface 69 (.int .i64 (e1 : Int)) := hE
   show Calls _ _ _ _ fun r w' => ∃ S', r = .returned (er e1) ∧ Tp C w' S' q p d1 (appT t b e1) ∧ Turn (SQ S q) (SQ S' q) w w'
   rw [hE, eT]
   clear eS eS1 hE eT h0
   go_enter Tryz.func24, Tryz.ntmps24
   go_upto_region 9 with (go_at_call 30; go_must (refine HR.out.mono ?_; rintro y w1 ⟨rfl, hb⟩; have T1 := jI (jA (H.out.more hb) (jA hb (HX.out.turn (turn_sq (Turn.of_below hb) q)))); clear hb))
   obtain ⟨-, -, c2, c3, -, -, -⟩ := T1.out.1.box.cells
   rw [← HT.out.1] at c2
   rw [← HT.out.2.1] at c3
   clear c5'
   go_quiet (fail)
   have T2 := jI (fun k => jA (T1.out.1.more (below_drewN w1 k)) (jA (T1.out.2.1.trans ((below_drewN w1 k).mono T1.out.2.1.size)) (T1.out.2.2.turn (turn_sq (Turn.of_below (below_drewN w1 k)) q))))
   go_upto_region 11 with (first
     | (go_at_call 53; go_must (refine (room_any _ _ (by omega) (by omega)).mono ?_; rintro y w3 ⟨rfl, rfl⟩; rw [RZ.out]))
     | (go_at_call 52; go_must (refine (body_any _ A c m b z _ (T2.out _).2.2 (by have := HM.out; omega)).mono ?_; rintro y w4 ⟨v, rfl, hv, hb⟩; obtain ⟨A4, n4, c4, rfl⟩ := hv.form; rw [HWX.out] at hv; have T4 := jI (jA ((T2.out nq).1.more hb) (jA (SlT.mono hv (fun k hk => (⟨hk.2, fun hs => Nat.lt_irrefl k (Nat.lt_of_lt_of_le (C.foot (T2.out nq).1.dk k hs) hk.1)⟩ : Av w4 S k))) ((T2.out nq).2.1.trans (hb.mono (T2.out nq).2.1.size)))); clear hv hb))
     | (go_at_call 51; go_must (have cw := write_any T4.out.1 (f + 1) (by omega) (by have := HT.out.2.2.2; omega) A4 n4 c4 (appW t b) T4.out.2.1; rw [← HXE.out.1, ef] at cw; refine cw.mono ?_; rintro y w5 ⟨S5, rfl, h5, ht5⟩; rw [E1]; have T5 := jI (jA h5 ((Turn.of_below T4.out.2.2).trans ht5)); clear h5 ht5 cw)))
   clear c2 c3
   go_wp2_with fail
   go_ret
   exact ⟨S5, rfl, T5.out.1, T5.out.2⟩
end
end
section
section
variable {C : ConD} {w w' : World} {S S' : Nat → Prop} {q p : Nat} {d d' : Dk} {t : Tm}
set_option maxHeartbeats 2000000 in
theorem Reset_go (h : Tp C w S q p d t) (hd : t.dead = 0) (hL : d.L.length < 99990) :
   Calls Tryz.prog 76 #[.pointer (some ⟨q, 0, none⟩)] w fun r w' => ∃ S', r = .returned (er (resS d t).2) ∧ Tp C w' S' q p (resS d t).1 (resT t (resS d t).2) ∧ Turn (SQ S q) (SQ S' q) w w' := by
 obtain ⟨-, -, -, -, -, c5, -⟩ := h.box.cells
 rw [hd] at c5
 have c5' : w.cell? ⟨q, 5, none⟩ = some .nilIface := c5
 have hal := h.more ((Below.refl w.heap.size w).alloc (Nat.le_refl _) (.cells #[.int .u8 0] 5))
 have cw := write_any hal 0 (by omega) (by omega) _ 1 1 [0] (lit_av h 0)
 rw [Nat.add_zero] at cw
 have eS : resS d t = chainS (putS t.at_ [0] d) syncS := rfl
 rw [← eS] at cw
 obtain ⟨X, hX⟩ : ∃ X, X = resS d t := ⟨_, rfl⟩
 rw [← hX] at cw ⊢
 obtain ⟨d1, e1⟩ := X
 have HTB := jI (Turn.of_below (S := SQ S q) ((Below.refl w.heap.size w).alloc (Nat.le_refl _) (.cells #[.int .u8 0] 5)))
 have hlast : ∀ (W : World) (S2 : Nat → Prop), Tp C W S2 q p d1 { t with dead := 0 } → Turn (SQ S q) (SQ S2 q) w W → Tp C ((W.setCell ⟨q, 3, none⟩ (.int .i64 0)).setCell ⟨q, 4, none⟩ (.int .i64 0)) S2 q p d1 (resT t 0) ∧ Turn (SQ S q) (SQ S2 q) w ((W.setCell ⟨q, 3, none⟩ (.int .i64 0)).setCell ⟨q, 4, none⟩ (.int .i64 0)) := fun W S2 hT hTu => by
   have h1 := hT.setFin 0 0 (by omega) (by omega)
   refine ⟨?_, (hTu.trans (turn_set _ _ _)).trans (turn_set _ _ _)⟩
   have x3 : resT t 0 = { { t with dead := 0 } with fin := 0, n := 0 } := by
     unfold resT
     rw [if_pos rfl]
     have : t = { t with dead := 0 } := by cases t; simp only at hd; subst hd; rfl
     conv => lhs; rw [this]
   rw [x3]
   exact h1
 have HLAST := jI hlast
 have CW := jI cw
 clear hal cw eS hX hlast h hd c5 hL
 by_cases h0 : e1 = 0
 · subst h0
   have E1 : er (d1, 0).2 = .nilIface := rfl
   show Calls _ _ _ _ fun r w' => ∃ S', r = .returned (er 0) ∧ Tp C w' S' q p d1 (resT t 0) ∧ Turn (SQ S q) (SQ S' q) w w'
   rw [er_zero]
   go_enter Tryz.func76, Tryz.ntmps76
   go_wp2_with (go_at_call 51; go_must (refine CW.out.mono ?_; rintro y w6 ⟨S6, rfl, h6, ht6⟩; rw [E1]; have T6 := jI (jA h6 (HTB.out.trans ht6)); clear h6 ht6; obtain ⟨-, -, -, c3, c4, -, cf⟩ := T6.out.1.box.cells; have f3 := cf 3; have f4 := cf 4; clear cf))
   go_ret
   exact ⟨S6, rfl, HLAST.out w6 S6 T6.out.1 T6.out.2⟩
 · have eT : resT t e1 = { t with dead := e1 } := if_neg h0
   have hE := er_ne h0
   have E1 : er (d1, e1).2 = .iface 69 (.int .i64 (e1 : Int)) := hE
   show Calls _ _ _ _ fun r w' => ∃ S', r = .returned (er e1) ∧ Tp C w' S' q p d1 (resT t e1) ∧ Turn (SQ S q) (SQ S' q) w w'
   rw [hE, eT]
   clear hE eT h0
   go_enter Tryz.func76, Tryz.ntmps76
   go_wp2_with (go_at_call 51; go_must (refine CW.out.mono ?_; rintro y w6 ⟨S6, rfl, h6, ht6⟩; rw [E1]; have T6 := jI (jA h6 (HTB.out.trans ht6)); clear h6 ht6))
   go_ret
   exact ⟨S6, rfl, T6.out.1, T6.out.2⟩
end
end
end Go.Proofs.YtncaefocijainaaGreatDoor.pk
