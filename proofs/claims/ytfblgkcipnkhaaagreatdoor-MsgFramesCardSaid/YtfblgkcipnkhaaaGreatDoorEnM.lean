/-
  The program's own bytes of a message.
-/
import Derived.Test.YtfblgkcipnkhaaaGreatDoorJo
import Derived.Test.YtfblgkcipnkhaaaGreatDoorJn
import Derived.Test.YtfblgkcipnkhaaaGreatDoorJh
namespace Go.Proofs.YtfblgkcipnkhaaaGreatDoor.pk
open Go Go.RowKit
set_option maxRecDepth 100000

theorem encEs_nx {l : List En} {j : Nat} (h : j < l.length) : encEs (l.take (j + 1)) = encEs (l.take j) ++ lBytes (encE l[j]) := by
  unfold encEs
  rw [List.take_succ_eq_append_getElem h, List.flatMap_append]
  simp
theorem encEs_tk {l : List En} (h : ∀ e ∈ l, e.data.length ≤ 25663) (hn : l.length ≤ 200) (j : Nat) : (encEs (l.take j)).length ≤ 5200000 := by
  have h1 := encEs_len (d := 25663) (l := l.take j) (fun e he => h e (List.mem_of_mem_take he)) (by omega)
  rw [List.length_take] at h1
  have h2 : min j l.length * (25663 + 110) ≤ 200 * (25663 + 110) := Nat.mul_le_mul_right _ (by omega)
  omega

set_option maxHeartbeats 16000000 in
theorem Encode_m (m : Ms) (Ad : Option Addr) (nd cd : Nat) (Ae : Option Addr) (ne ce : Nat) (w : World) (hs : StdG w) (h : InM m Ad nd cd Ae ne ce w) (hnd : nd ≤ 10000) (hse : SmallE 200 25663 m.ents) (n : Nat) (hn : n = (encM m).length) :
    Calls Tryz.prog 16 #[.agg #[.int .i64 m.kind, .int .i64 m.frm, .int .i64 m.to, .int .i64 m.term, .int .i64 m.index, .int .i64 m.logTerm, .int .i64 m.commit, .int .i64 m.round, .bool m.ok, .int .i64 m.off, .slice Ad nd cd, .slice Ae ne ce]] w fun y w' => ∃ A1 c1, y = .returned (.slice A1 n c1) ∧ Bys w' (.slice A1 n c1) (encM m) ∧ Below w.heap.size w w' := by
  obtain ⟨W1, g, hW1, hg, hb1, hq, hsz⟩ := one_box w (.cells #[.int .i64 m.kind, .int .i64 m.frm, .int .i64 m.to, .int .i64 m.term, .int .i64 m.index, .int .i64 m.logTerm, .int .i64 m.commit, .int .i64 m.round, .bool m.ok, .int .i64 m.off, .slice Ad nd cd, .slice Ae ne ce] 30)
  have hl1 := h.data.len_
  have hl2 := h.ents.len_.1
  have HW := Lib.hid (And.intro hW1 hg)
  have HE := Lib.hid hb1
  obtain ⟨B, hB⟩ : ∃ B, B = W1.heap.size := ⟨_, rfl⟩
  have hs1 : StdG W1 := hs.below hb1
  have hGB : 6 ≤ B := by rw [hB]; exact hs1.size
  have HB := Lib.hid (And.intro hB hGB)
  have HS := Lib.hid fun W (hW : Below B W1 W) => hs1.low hGB hW
  have HC := Lib.hid fun W (hW : Below B W1 W) => cells12 ((hW.block g (by rw [hB]; exact obj_lt hq)).trans hq)
  have HI := Lib.hid fun W (hW : Below B W1 W) => (h.below hb1).below (hB ▸ hW)
  have HN := Lib.hid (And.intro hn (And.intro hse (And.intro hl1 (And.intro hl2 hnd))))
  obtain ⟨b1, e1⟩ : ∃ b, b = [] ++ lays [m.kind, m.frm, m.to, m.term, m.index, m.logTerm, m.commit, m.round] := ⟨_, rfl⟩
  obtain ⟨b2, e2⟩ : ∃ b, b = b1 ++ lBool m.ok := ⟨_, rfl⟩
  obtain ⟨b3, e3⟩ : ∃ b, b = b2 ++ lays [m.off] := ⟨_, rfl⟩
  obtain ⟨b4, e4⟩ : ∃ b, b = b3 ++ lBytes m.data := ⟨_, rfl⟩
  obtain ⟨b5, e5⟩ : ∃ b, b = b4 ++ lays [(ne : Int)] := ⟨_, rfl⟩
  have q1 : b1.length ≤ 176 := by rw [e1, List.nil_append]; exact lays_len _
  have q2 : b2.length ≤ 177 := by rw [e2, List.length_append]; cases m.ok <;> simp [lBool] <;> omega
  have q3 : b3.length ≤ 199 := by rw [e3, List.length_append]; have := lays_len [m.off]; simp only [List.length_singleton] at this; omega
  have q4 : b4.length ≤ 10300 := by
    rw [e4, List.length_append]
    have := lHead_len 98 m.data.length (by omega)
    unfold lBytes
    rw [List.length_append]
    omega
  have q5 : b5.length ≤ 10400 := by rw [e5, List.length_append]; have := lays_len [(ne : Int)]; simp only [List.length_singleton] at this; omega
  have hb5 : encM m = b5 ++ encEs m.ents := by
    unfold encM headM
    rw [e5, e4, e3, e2, e1]
    have hu : u64 (ne : Int) = m.ents.length := by rw [hl2]; exact u64_nat _ (by have := hse.1; omega)
    simp [lays, hu, List.append_assoc]
  have HQ := Lib.hid (And.intro hb5 q5)
  have in2 : (ne : Int) ≤ 9223372036854775807 := by have := h.ents.len_; omega
  have C0 := Lib.hid (New_any W1)
  rw [← hB] at C0
  have C1 := Lib.hid fun g W (hw : Below B W1 W ∧ WR W B B (.slice none 0 0) []) hg => lay_any B B g 0 8 rfl [m.kind, m.frm, m.to, m.term, m.index, m.logTerm, m.commit, m.round] _ (.slice none 0 0) [] W (HS.out W hw.1) hGB hw.2 hg rfl rfl (by simp)
  have C2 := Lib.hid fun v W hw => Writer_Bool B B m.ok v b1 W hw (by omega)
  have C3 := Lib.hid fun g v W (hw : Below B W1 W ∧ WR W B B v b2) hg => lay_any B B g 0 1 rfl [m.off] _ v b2 W (HS.out W hw.1) hGB hw.2 hg rfl rfl (by omega)
  have C4 := Lib.hid fun v W (hw : Below B W1 W ∧ WR W B B v b3) => Writer_Bytes B B Ad nd cd m.data B (Nat.le_refl _) v b3 W (HS.out W hw.1) hGB hw.2 (((h.data.below hb1).sl_.more (Nat.le_of_eq hB.symm)).below hw.1) (by omega)
  have C5 := Lib.hid fun g v W (hw : Below B W1 W ∧ WR W B B v b4) hg => lay_any B B g 0 1 rfl [(ne : Int)] _ v b4 W (HS.out W hw.1) hGB hw.2 hg rfl rfl (by omega)
  rw [← e1] at C1
  rw [← e2] at C2
  rw [← e3] at C3
  rw [← e4] at C4
  rw [← e5] at C5
  obtain ⟨z0, z1, z2, z3, z4, z5, z6, z7, z8, z9, z10, z11⟩ := cells12 hq
  clear hW1 hg hb1 hq hsz h hs hs1 hnd hse hn e1 e2 e3 e4 e5 q1 q2 q3 q4 q5 hb5 hl1 hl2 hGB hB
  go_enter Tryz.func16, Tryz.ntmps16
  go_upto_region 1 with fail
  rw [← HW.out.1, ← HW.out.2]
  go_upto_region 2 with (go_at_call 42; go_must (refine C0.out.mono ?_; rintro y w1 ⟨rfl, hw, hb⟩; obtain ⟨z0, z1, z2, z3, z4, z5, z6, z7, z8, z9, z10, z11⟩ := HC.out w1 hb; have H1 := Lib.hid (And.intro hb hw); clear hb hw))
  go_upto_region 3 with (go_at_call 43; go_must (refine (C1.out _ _ (And.intro (H1.out.1.trans ((below_alloc _ _).mono H1.out.2.hB)) (H1.out.2.alloc _)) (heap_alloc_new _ _)).mono ?_; rintro y w2 ⟨v2, rfl, hw, hk⟩; have hb := (H1.out.1.trans ((below_alloc _ _).mono H1.out.2.hB)).trans hk.below; obtain ⟨z0, z1, z2, z3, z4, z5, z6, z7, z8, z9, z10, z11⟩ := HC.out w2 hb; have H2 := Lib.hid (And.intro hb hw); clear hb hw hk))
  go_upto_region 4 with (go_at_call 44; go_must (refine (C2.out _ _ H2.out.2).mono ?_; rintro y w3 ⟨v3, rfl, hw, hk⟩; have hb := H2.out.1.trans hk.below; obtain ⟨z0, z1, z2, z3, z4, z5, z6, z7, z8, z9, z10, z11⟩ := HC.out w3 hb; have H3 := Lib.hid (And.intro hb hw); clear hb hw hk))
  go_upto_region 5 with (go_at_call 43; go_must (refine (C3.out _ v3 _ (And.intro (H3.out.1.trans ((below_alloc _ _).mono H3.out.2.hB)) (H3.out.2.alloc _)) (heap_alloc_new _ _)).mono ?_; rintro y w4 ⟨v4, rfl, hw, hk⟩; have hb := (H3.out.1.trans ((below_alloc _ _).mono H3.out.2.hB)).trans hk.below; obtain ⟨z0, z1, z2, z3, z4, z5, z6, z7, z8, z9, z10, z11⟩ := HC.out w4 hb; have H4 := Lib.hid (And.intro hb hw); clear hb hw hk))
  go_upto_region 6 with (go_at_call 45; go_must (refine (C4.out _ _ H4.out).mono ?_; rintro y w5 ⟨v5, rfl, hw, hk⟩; have hb := H4.out.1.trans hk.below; obtain ⟨z0, z1, z2, z3, z4, z5, z6, z7, z8, z9, z10, z11⟩ := HC.out w5 hb; have H5 := Lib.hid (And.intro hb hw); clear hb hw hk))
  go_upto_region 7 with (go_at_call 43; go_must (refine (C5.out _ v5 _ (And.intro (H5.out.1.trans ((below_alloc _ _).mono H5.out.2.hB)) (H5.out.2.alloc _)) (heap_alloc_new _ _)).mono ?_; rintro y w6 ⟨v6, rfl, hw, hk⟩; have hb := (H5.out.1.trans ((below_alloc _ _).mono H5.out.2.hB)).trans hk.below; obtain ⟨z0, z1, z2, z3, z4, z5, z6, z7, z8, z9, z10, z11⟩ := HC.out w6 hb; have H6 := Lib.hid (And.intro hb hw); clear hb hw hk))
  clear C0 C1 C2 C3 C4 C5 H1 H2 H3 H4 H5
  go_wp2_with fail
  go_loopw [48] (fun ii wr => ∃ (j : Nat) (v' : Value), j ≤ ne ∧ ii = .int .i64 (j : Int) ∧ Hid (Below B W1 wr ∧ WR wr B B v' (b5 ++ encEs (m.ents.take j)))) (fun ii _ => ne - (intOf ii).toNat)
  case atStart => exact ⟨0, v6, Nat.zero_le _, rfl, Lib.hid ⟨H6.out.1, by rw [List.take_zero]; simpa [encEs] using H6.out.2⟩⟩
  case round =>
    obtain ⟨j, v', hj, rfl, HR⟩ := hrel
    clear z0 z1 z2 z3 z4 z5 z6 z7 z8 z9 z10 z11
    have hsmall := encEs_tk HN.out.2.1.2 HN.out.2.1.1
    by_cases hlt : j < ne
    · have ii : (j : Int) < (ne : Int) := by omega
      have hjl : j < m.ents.length := by have := HN.out.2.2.2.1; omega
      obtain ⟨bk, off, Ae', ce', rfl, hbb, hok, y0, y1, y2, y3, hdat⟩ := (HI.out wr HR.out.1).ents.at_ j hjl
      have hnx := encEs_nx hjl
      have hsm := HN.out.2.1.2 _ (List.getElem_mem hjl)
      obtain ⟨e, he⟩ : ∃ e, e = m.ents[j] := ⟨_, rfl⟩
      rw [← he] at y0 y1 y2 y3 hdat hnx hsm
      obtain ⟨me, hme⟩ : ∃ me, me = e.data.length := ⟨_, rfl⟩
      rw [← hme] at y3 hdat hsm
      obtain ⟨WB, qb, hWB, hqb, hbx, hqx, hszx⟩ := one_box wr (.cells #[.int .i64 e.index, .int .i64 e.term, .int .i64 e.kind, .slice Ae' me ce'] 57)
      obtain ⟨k, hk⟩ : ∃ k, k = (encE e).length := ⟨_, rfl⟩
      have hkl : k ≤ 30000 := by have := encE_len (e := e) (by omega); omega
      have hbW : Below B W1 WB := HR.out.1.trans (hbx.mono HR.out.2.hB)
      have CE := Lib.hid (EEncT_any e Ae' me ce' WB (HS.out WB hbW) (hdat.below hbx) (by omega) k hk)
      have CB := Lib.hid fun A c v W (hw : Below B W1 W ∧ WR W B B v (b5 ++ encEs (m.ents.take j))) ht => Writer_BytesQ B B A k c (encE e) v (b5 ++ encEs (m.ents.take j)) W (HS.out W hw.1) HB.out.2 hw.2 ht (by rw [List.length_append]; have h1 := HQ.out.2; have h2 := hsmall j; omega)
      have HX := Lib.hid (And.intro hnx (And.intro hbW (And.intro hbx (And.intro hWB hqb))))
      have HWR := Lib.hid (HR.out.2.kept hbx)
      obtain ⟨x0, x1, x2, x3⟩ := cells4 hqx
      clear hnx hsm he hme hdat hWB hqb hbx hqx hszx hk hkl hbW hsmall hok hbb hjl
      go_upto_region 10 with fail
      rw [← HX.out.2.2.2.1, ← HX.out.2.2.2.2]
      go_wp2_with (first
        | (go_at_call 46; go_must (refine CE.out.mono ?_; rintro y w7 ⟨A7, c7, rfl, hi, hb⟩; have H7 := Lib.hid (And.intro hi (And.intro (HX.out.2.1.trans (hb.mono HWR.out.hB)) (HWR.out.kept hb))); clear hi hb))
        | (go_at_call 45; go_must (refine (CB.out A7 c7 v' w7 H7.out.2 (H7.out.1.mono fun q hq => ⟨hq.2, by have h1 := hq.1; have h2 := HWR.out.lt; omega, fun e' => by have h1 := (HWR.out.own.lt q e').2; have h2 := hq.1; omega⟩)).mono ?_; rintro y w8 ⟨v8, rfl, hw, hk⟩; have H8 := Lib.hid (And.intro (H7.out.2.1.trans hk.below) hw); clear hw hk)))
      go_roundw
      case rel => exact ⟨j + 1, v8, by omega, by go_num, Lib.hid ⟨H8.out.1, by rw [HX.out.1, ← List.append_assoc]; exact H8.out.2⟩⟩
      case measure => simp [intOf]; omega
    · obtain rfl : j = ne := by omega
      have ii : ¬ (j : Int) < (j : Int) := by omega
      have hfin := HR.out.2
      rw [List.take_of_length_le (by have := HN.out.2.2.2.1; omega), ← HQ.out.1] at hfin
      have hsl : (encM m).length ≤ 140737488355328 := by rw [HQ.out.1, List.length_append]; have h1 := HQ.out.2; have h2 := hsmall j; rw [List.take_of_length_le (by have := HN.out.2.2.2.1; omega)] at h2; omega
      have CD := Lib.hid (Writer_Done B B v' (encM m) wr hfin hsl)
      have HF := Lib.hid (HE.out.trans (HR.out.1.mono (by rw [HB.out.1]; exact HE.out.size)))
      have HH := Lib.hid hfin.hB
      clear hfin hsl hsmall
      go_wp2_with (go_at_call 47; go_must (refine CD.out.mono ?_; rintro y w9 ⟨u, rfl, ho, hb⟩; have hI := Bys.of_own ho; obtain ⟨A9, c9, rfl, -, -⟩ := hI.form; rw [← HN.out.1] at hI; have H9 := Lib.hid (And.intro hI hb); clear ho hI hb))
      go_ret
      exact ⟨A9, c9, by rw [HN.out.1]; rfl, H9.out.1, HF.out.trans (H9.out.2.mono HF.out.size)⟩

end Go.Proofs.YtfblgkcipnkhaaaGreatDoor.pk
