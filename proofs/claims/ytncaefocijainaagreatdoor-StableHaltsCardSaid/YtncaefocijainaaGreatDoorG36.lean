import Derived.Test.YtncaefocijainaaGreatDoorG28
import Derived.Test.YtncaefocijainaaGreatDoorG20
namespace Go.Proofs.YtncaefocijainaaGreatDoor.pk
section
open Go
/-! ### what is written within a part of the disk -/
structure Wi (B0 : List UInt8) (a len : Nat) (d : Dk) : Prop where
 size : d.B.length = B0.length
 out : ∀ j, ¬ (a ≤ j ∧ j < a + len) → d.B.getD j 0 = B0.getD j 0
 ins : ∀ w ∈ d.L, a ≤ w.1 ∧ w.1 + w.2.length ≤ a + len
theorem nowL_out {a len : Nat} : ∀ {l : List (Nat × List UInt8)} {B : List UInt8}, (∀ w ∈ l, a ≤ w.1 ∧ w.1 + w.2.length ≤ a + len) → a + len ≤ B.length → (nowL B l).length = B.length ∧ ∀ j, ¬ (a ≤ j ∧ j < a + len) → (nowL B l).getD j 0 = B.getD j 0
 | [], B, _, _ => ⟨rfl, fun _ _ => rfl⟩
 | w :: l, B, h, hl => by
   have h0 := h w (List.mem_cons_self ..)
   have hp : (put1 B w.1 w.2).length = B.length := put1_len (by omega)
   obtain ⟨i1, i2⟩ := nowL_out (l := l) (B := put1 B w.1 w.2) (fun v hv => h v (List.mem_cons_of_mem _ hv)) (by rw [hp]; exact hl)
   refine ⟨i1.trans hp, fun j hj => (i2 j hj).trans ?_⟩
   rw [put1_get (by omega), if_neg (by omega)]
variable {B0 : List UInt8} {a len : Nat} {d : Dk}
theorem Wi.stepD (h : Wi B0 a len d) : Wi B0 a len (pk.stepD d) := by
 obtain ⟨h1, h2⟩ := stepD_L d
 exact ⟨by rw [h2]; exact h.size, by rw [h2]; exact h.out, by rw [h1]; exact h.ins⟩
theorem Wi.put (h : Wi B0 a len d) {q : Nat} {x : List UInt8} (h1 : a ≤ q) (h2 : q + x.length ≤ a + len) : Wi B0 a len (putS q x d).1 := by
 unfold putS putD
 by_cases hb : badE d q x.length = 0
 · rw [if_pos hb]
   refine Wi.stepD ⟨h.size, h.out, fun w hw => ?_⟩
   rcases List.mem_append.1 hw with hw | hw
   · exact h.ins w hw
   · rw [List.mem_singleton.1 hw]
     simp only [Int.toNat_natCast]
     exact ⟨h1, h2⟩
 · rw [if_neg hb]; exact h
theorem Wi.sync (h : Wi B0 a len d) (hl : a + len ≤ B0.length) : Wi B0 a len (syncS d).1 := by
 unfold syncS syncD
 by_cases ho : d.off = true
 · rw [if_pos ho]; exact h
 · rw [if_neg ho]
   by_cases he : stepE d = 0
   · rw [if_pos he]
     obtain ⟨i1, i2⟩ := nowL_out h.ins (by rw [h.size]; exact hl)
     exact ⟨i1.trans h.size, fun j hj => (i2 j hj).trans (h.out j hj), fun w hw => by cases hw⟩
   · rw [if_neg he]; exact h.stepD
theorem Wi.chain {x : Dk × Nat} {f : Dk → Dk × Nat} (h : Wi B0 a len x.1) (hf : ∀ d, Wi B0 a len d → Wi B0 a len (f d).1) : Wi B0 a len (chainS x f).1 := by
 unfold chainS
 by_cases h0 : x.2 = 0
 · rw [if_pos h0]; exact hf _ h
 · rw [if_neg h0]; exact h
theorem Wi.start (h : Wi B0 a len d) (hl : a + len ≤ B0.length) (keep : List Int) : Wi B0 a len (startD d keep) := by
 have hk : ∀ w ∈ keptL d.L keep, a ≤ w.1 ∧ w.1 + w.2.length ≤ a + len := by
   intro w hw
   unfold keptL at hw
   rcases List.mem_append.1 hw with hw | hw
   · exact h.ins w (List.mem_of_mem_take hw)
   · obtain ⟨v, hv, rfl⟩ := List.mem_map.1 hw
     have := h.ins v (List.mem_of_mem_drop (List.mem_of_mem_take hv))
     simp only [List.length_take]
     omega
 obtain ⟨i1, i2⟩ := nowL_out hk (by rw [h.size]; exact hl)
 exact ⟨i1.trans h.size, fun j hj => (i2 j hj).trans (h.out j hj), fun w hw => by cases hw⟩
theorem Wi.app (h : Wi B0 a len d) (hl : a + len ≤ B0.length) {t : Tm} (ht : t.at_ = a ∧ t.len = len) {b : List UInt8} (hb : t.fin + 5 + b.length ≤ t.len) : Wi B0 a len (appS d t b).1 := by
 have hw := appW_len t b hb
 unfold appS
 refine Wi.chain (Wi.chain (Wi.chain (h.put (by omega) (by omega)) fun d h => h.sync hl) fun d h => h.put (by omega) (by simp; omega)) fun d h => h.sync hl
theorem Wi.res (h : Wi B0 a len d) (hl : a + len ≤ B0.length) {t : Tm} (ht : t.at_ = a ∧ t.len = len) (h5 : 5 ≤ len) : Wi B0 a len (resS d t).1 := by
 unfold resS
 exact Wi.chain (h.put (by omega) (by simp; omega)) fun d h => h.sync hl
theorem Wi.refl (d : Dk) (h : d.L = []) (a len : Nat) : Wi d.B a len d := ⟨rfl, fun _ _ => rfl, fun w hw => by rw [h] at hw; cases hw⟩
theorem Wi.area (h : Wi B0 a len d) {a' len' : Nat} (hd : a' + len' ≤ a ∨ a + len ≤ a') (hl : a' + len' ≤ B0.length) : areaT d.B a' len' = areaT B0 a' len' := by
 refine getD_ext' (by rw [area_len (by rw [h.size]; exact hl), area_len hl]) fun j hj => ?_
 rw [area_len (by rw [h.size]; exact hl)] at hj
 rw [area_get j hj, area_get j hj]
 exact h.out _ (by omega)
/-! ### the two tapes -/
def aAt (n : Nat) (o : Bool) : Nat := if o = true then n / 2 else 0
def aLen (n : Nat) (o : Bool) : Nat := if o = true then n - n / 2 else n / 2
theorem a_in (n : Nat) (o : Bool) : aAt n o + aLen n o ≤ n := by unfold aAt aLen; cases o <;> simp <;> omega
theorem a_apart (n : Nat) (o : Bool) : aAt n (!o) + aLen n (!o) ≤ aAt n o ∨ aAt n o + aLen n o ≤ aAt n (!o) := by unfold aAt aLen; cases o <;> simp
theorem a_five {n : Nat} (h : 10 ≤ n) (o : Bool) : 5 ≤ aLen n o := by unfold aLen; cases o <;> simp <;> omega
theorem a_half (n : Nat) (o : Bool) : n / 2 ≤ aLen n o := by unfold aLen; cases o <;> simp <;> omega
def recS (l : List (List UInt8)) : Option (Option (Nat × St)) := match l.getLast? with
 | none => some none
 | some b => (decS b).map some
theorem recS_nil : recS [] = some none := rfl
theorem recS_more (l : List (List UInt8)) (b : List UInt8) : recS (l ++ [b]) = (decS b).map some := by unfold recS; simp
structure KR (n : Nat) (d : Dk) (L : Bool → List (List UInt8)) (o : Bool) (sv : Nat) (s : St) : Prop where
 size : d.B.length = n
 rest : ∀ x, Rests d (aAt n x) (aLen n x) (L x)
 cnt : recS (L o) = some (some (sv, s))
 oth : ∃ x, recS (L (!o)) = some x ∧ ∀ y, x = some y → y.1 < sv
structure Km where
 on : Bool
 saves : Nat
 kept : St
 T : Bool → Tm
 dead : Nat
def upT (T : Bool → Tm) (o : Bool) (t : Tm) : Bool → Tm := fun x => if x = o then t else T x
theorem upT_at (T : Bool → Tm) (o : Bool) (t : Tm) : upT T o t o = t := if_pos rfl
theorem upT_oth (T : Bool → Tm) (o : Bool) (t : Tm) : upT T o t (!o) = T (!o) := by unfold upT; rw [if_neg (by cases o <;> decide)]
theorem upT_oth' (T : Bool → Tm) (o : Bool) (t : Tm) : upT T (!o) t o = T o := by unfold upT; rw [if_neg (by cases o <;> decide)]
def upL (L : Bool → List (List UInt8)) (o : Bool) (l : List (List UInt8)) : Bool → List (List UInt8) := fun x => if x = o then l else L x
theorem upL_at (L : Bool → List (List UInt8)) (o : Bool) (l : List (List UInt8)) : upL L o l o = l := if_pos rfl
theorem upL_oth (L : Bool → List (List UInt8)) (o : Bool) (l : List (List UInt8)) : upL L o l (!o) = L (!o) := by unfold upL; rw [if_neg (by cases o <;> decide)]
theorem upL_oth' (L : Bool → List (List UInt8)) (o : Bool) (l : List (List UInt8)) : upL L (!o) l o = L o := by unfold upL; rw [if_neg (by cases o <;> decide)]
theorem bool_or (o x : Bool) : x = o ∨ x = !o := by cases o <;> cases x <;> simp
structure KI (n : Nat) (d : Dk) (k : Km) (L : Bool → List (List UInt8)) : Prop where
 size : d.B.length = n
 ts : ∀ x, TState d (k.T x) (L x)
 ar : ∀ x, (k.T x).at_ = aAt n x ∧ (k.T x).len = aLen n x
 alive : k.dead = 0
 cnt : recS (L k.on) = some (some (k.saves, k.kept))
 oth : ∃ x, recS (L (!k.on)) = some x ∧ ∀ y, x = some y → y.1 < k.saves
theorem KI.rests {n : Nat} {d : Dk} {k : Km} {L : Bool → List (List UInt8)} (h : KI n d k L) : KR n d L k.on k.saves k.kept :=
 ⟨h.size, fun x => by have := (h.ts x).rests; rw [(h.ar x).1, (h.ar x).2] at this; exact this, h.cnt, h.oth⟩
def openKm (n : Nat) (L : Bool → List (List UInt8)) (o : Bool) (sv : Nat) (s : St) : Km := ⟨o, sv, s, fun x => openT (aAt n x) (aLen n x) (L x), 0⟩
theorem recS_may {l : List (List UInt8)} {sv : Nat} {s : St} (h : recS l = some (some (sv, s))) : mayS s = true ∧ 1 ≤ sv ∧ sv ≤ 1099511627776 ∧ s.snap.length ≤ 1048576 := by
 unfold recS at h
 cases hl : l.getLast? with
 | none => rw [hl] at h; simp at h
 | some b =>
   rw [hl] at h
   simp only [Option.map_eq_some_iff] at h
   obtain ⟨x, hx, hy⟩ := h
   injection hy with hy
   subst hy
   exact decS_may hx
/-! ### a save -/
def enT (e : En) : Int × Int × Int × List UInt8 := (e.index, e.term, e.kind, e.data)
theorem enT_inj {a b : En} (h : enT a = enT b) : a = b := by
 unfold enT at h
 injection h with h1 h
 injection h with h2 h
 injection h with h3 h4
 cases a; cases b
 simp only at h1 h2 h3 h4
 subst h1; subst h2; subst h3; subst h4
 rfl
def sameS (a b : St) : Bool := decide (a.term = b.term ∧ a.vote = b.vote ∧ a.log.base = b.log.base ∧ a.log.term = b.log.term) && decide (a.conf = b.conf) && decide (a.snap = b.snap) && decide (a.log.l.map enT = b.log.l.map enT)
theorem map_enT : ∀ {a b : List En}, a.map enT = b.map enT → a = b
 | [], [], _ => rfl
 | [], _ :: _, h => by simp at h
 | _ :: _, [], h => by simp at h
 | x :: a, y :: b, h => by
   simp only [List.map_cons, List.cons.injEq] at h
   rw [enT_inj h.1, map_enT h.2]
theorem sameS_iff {a b : St} : sameS a b = true ↔ a = b := by
 unfold sameS
 simp only [Bool.and_eq_true, decide_eq_true_eq]
 constructor
 · rintro ⟨⟨⟨⟨h1, h2, h3, h4⟩, h5⟩, h6⟩, h7⟩
   have h8 := map_enT h7
   cases a with | mk a1 a2 a3 a4 a5 => cases b with | mk b1 b2 b3 b4 b5 => cases a3 with | mk c1 c2 c3 => cases b3 with | mk e1 e2 e3 =>
     simp only at h1 h2 h3 h4 h5 h6 h8
     subst h1; subst h2; subst h3; subst h4; subst h5; subst h6; subst h8
     rfl
 · rintro rfl
   exact ⟨⟨⟨⟨rfl, rfl, rfl, rfl⟩, rfl⟩, rfl⟩, rfl⟩
def fitT (t : Tm) (b : List UInt8) : Bool := decide (t.fin + 5 + b.length ≤ t.len)
def layK (d : Dk) (k : Km) (o : Bool) (b : List UInt8) (s : St) : Dk × Km × Nat :=
 if (appS d (k.T o) b).2 = 0 then ((appS d (k.T o) b).1, { k with on := o, saves := k.saves + 1, kept := s, T := upT k.T o (appT (k.T o) b 0) }, 0)
 else ((appS d (k.T o) b).1, { k with T := upT k.T o (appT (k.T o) b (appS d (k.T o) b).2), dead := (appS d (k.T o) b).2 }, (appS d (k.T o) b).2)
def saveR (d : Dk) (k : Km) (s : St) : Dk × Km × Nat :=
 if k.dead ≠ 0 then (d, k, k.dead)
 else if sameS s k.kept = true then (d, k, 0)
 else if mayS s = false then (d, k, 1)
 else if fitT (k.T k.on) (encS (k.saves + 1 : Nat) s) = true then layK d k k.on (encS (k.saves + 1 : Nat) s) s
 else if (k.T (!k.on)).len < 5 + (encS (k.saves + 1 : Nat) s).length then (d, k, 10)
 else if (resS d (k.T (!k.on))).2 = 0 then layK (resS d (k.T (!k.on))).1 { k with T := upT k.T (!k.on) (resT (k.T (!k.on)) 0) } (!k.on) (encS (k.saves + 1 : Nat) s) s
 else ((resS d (k.T (!k.on))).1, { k with T := upT k.T (!k.on) (resT (k.T (!k.on)) (resS d (k.T (!k.on))).2), dead := (resS d (k.T (!k.on))).2 }, (resS d (k.T (!k.on))).2)
theorem TState.other {d d' : Dk} {t : Tm} {l : List (List UInt8)} (h : TState d t l) (ho : d'.off = false) (hc : d'.L = []) (hl : d'.B.length = d.B.length) (ha : areaT d'.B t.at_ t.len = areaT d.B t.at_ t.len) : TState d' t l :=
 ⟨ho, hc, by rw [hl]; exact h.inside, h.five, by rw [ha]; exact h.lies, h.fin, h.num, h.alive⟩
theorem lay_out {n : Nat} {d : Dk} {k : Km} {L : Bool → List (List UInt8)} (o : Bool) (hsz : d.B.length = n) (hts : ∀ x, TState d (k.T x) (L x)) (har : ∀ x, (k.T x).at_ = aAt n x ∧ (k.T x).len = aLen n x) (hal : k.dead = 0)
   {b : List UInt8} {s : St} (hdec : decS b = some (k.saves + 1, s)) (hb : (k.T o).fin + 5 + b.length ≤ (k.T o).len) (hb4 : b.length < 4294967296)
   (hoth : ∃ x, recS (L (!o)) = some x ∧ ∀ y, x = some y → y.1 ≤ k.saves) (hcnt : ∃ c, recS (L c) = some (some (k.saves, k.kept)) ∧ ∃ x, recS (L (!c)) = some x ∧ ∀ y, x = some y → y.1 < k.saves) :
   ((layK d k o b s).2.2 = 0 ∧ KI n (layK d k o b s).1 (layK d k o b s).2.1 (upL L o (L o ++ [b])) ∧ (layK d k o b s).2.1.saves = k.saves + 1 ∧ (layK d k o b s).2.1.kept = s) ∨
   ((layK d k o b s).2.2 = 13 ∧ (layK d k o b s).1.off = true ∧ 0 ≤ d.armed ∧ (layK d k o b s).2.1.dead = 13 ∧ (layK d k o b s).2.1.kept = k.kept ∧ ∀ keep, ∃ L' c, KR n (startD (layK d k o b s).1 keep) L' c k.saves k.kept ∨ KR n (startD (layK d k o b s).1 keep) L' c (k.saves + 1) s) := by
 obtain ⟨ha, hl⟩ := har o
 have hin := (hts o).inside
 have hwi : Wi d.B (aAt n o) (aLen n o) (appS d (k.T o) b).1 := (Wi.refl d (hts o).calm _ _).app (by rw [hsz]; exact a_in n o) ⟨ha, hl⟩ hb
 have hap : (aAt n (!o) + aLen n (!o) ≤ aAt n o ∨ aAt n o + aLen n o ≤ aAt n (!o)) := a_apart n o
 rcases append_steps (hts o) hb hb4 with ⟨h1, h2, h3, h4, h5⟩ | ⟨h1, h2, h3, h4⟩
 · left
   have e : layK d k o b s = ((appS d (k.T o) b).1, { k with on := o, saves := k.saves + 1, kept := s, T := upT k.T o (appT (k.T o) b 0) }, 0) := if_pos h1
   rw [e]
   refine ⟨rfl, ⟨h4.trans hsz, fun x => ?_, fun x => ?_, hal, ?_, ?_⟩, rfl, rfl⟩
   · rcases bool_or o x with rfl | rfl
     · show TState _ (upT k.T x _ x) (upL L x _ x)
       rw [upT_at, upL_at]; exact h2
     · show TState _ (upT k.T o _ (!o)) (upL L o _ (!o))
       rw [upT_oth, upL_oth]
       refine (hts (!o)).other h2.on h2.calm h4 ?_
       rw [(har (!o)).1, (har (!o)).2]
       exact hwi.area hap (by rw [hsz]; exact a_in n (!o))
   · rcases bool_or o x with rfl | rfl
     · show (upT k.T x _ x).at_ = _ ∧ (upT k.T x _ x).len = _
       rw [upT_at]
       exact har x
     · show (upT k.T o _ (!o)).at_ = _ ∧ (upT k.T o _ (!o)).len = _
       rw [upT_oth]; exact har (!o)
   · show recS (upL L o _ o) = _
     rw [upL_at, recS_more, hdec]; rfl
   · show ∃ x, recS (upL L o _ (!o)) = _ ∧ _
     rw [upL_oth]
     obtain ⟨x, hx, hy⟩ := hoth
     exact ⟨x, hx, fun y e => by have := hy y e; show y.1 < k.saves + 1; omega⟩
 · right
   have e : layK d k o b s = ((appS d (k.T o) b).1, { k with T := upT k.T o (appT (k.T o) b (appS d (k.T o) b).2), dead := (appS d (k.T o) b).2 }, (appS d (k.T o) b).2) := if_neg (by rw [h1]; decide)
   rw [e]
   refine ⟨h1, h2, h3, h1, rfl, fun keep => ?_⟩
   have hws := hwi.start (by rw [hsz]; exact a_in n o) keep
   obtain ⟨h5, h6⟩ := h4 keep
   have hoa := hws.area hap (by rw [hsz]; exact a_in n (!o))
   have rest : ∀ l, Lies (areaT (startD (appS d (k.T o) b).1 keep).B (k.T o).at_ (k.T o).len) l → ∀ x, Rests (startD (appS d (k.T o) b).1 keep) (aAt n x) (aLen n x) (upL L o l x) := fun l hll x => by
     rcases bool_or o x with rfl | rfl
     · rw [upL_at]
       exact ⟨rfl, rfl, by rw [h5, hsz]; exact a_in n x, by rw [← hl]; exact (hts x).five, by rw [← ha, ← hl]; exact hll⟩
     · rw [upL_oth]
       refine ⟨rfl, rfl, by rw [h5, hsz]; exact a_in n (!o), by rw [← (har (!o)).2]; exact (hts (!o)).five, ?_⟩
       rw [hoa, ← (har (!o)).1, ← (har (!o)).2]
       exact (hts (!o)).lies
   obtain ⟨c, hc1, hc2⟩ := hcnt
   rcases h6 with h6 | h6
   · refine ⟨upL L o (L o), c, Or.inl ?_⟩
     have eL : upL L o (L o) = L := funext fun x => by cases o <;> cases x <;> rfl
     have hr := rest _ h6
     rw [eL] at hr ⊢
     exact ⟨h5.trans hsz, hr, hc1, hc2⟩
   · refine ⟨upL L o (L o ++ [b]), o, Or.inr ⟨h5.trans hsz, rest _ h6, ?_, ?_⟩⟩
     · rw [upL_at, recS_more, hdec]; rfl
     · rw [upL_oth]
       obtain ⟨x, hx, hy⟩ := hoth
       exact ⟨x, hx, fun y e => by have := hy y e; omega⟩
theorem save_out {n : Nat} {d : Dk} {k : Km} {L : Bool → List (List UInt8)} {s : St} (h : KI n d k L) (hm : mayS s = true) (hne : s ≠ k.kept) (hsn : s.snap.length ≤ 1048576) (hsv : k.saves + 1 ≤ 1099511627776) (hb4 : (encS (k.saves + 1 : Nat) s).length < 4294967296) :
   ((saveR d k s).2.2 = 0 ∧ (∃ L', KI n (saveR d k s).1 (saveR d k s).2.1 L') ∧ (saveR d k s).2.1.saves = k.saves + 1 ∧ (saveR d k s).2.1.kept = s) ∨
   ((saveR d k s).2.2 = 10 ∧ (saveR d k s).1 = d ∧ (saveR d k s).2.1 = k ∧ n / 2 < 5 + (encS (k.saves + 1 : Nat) s).length) ∨
   ((saveR d k s).2.2 = 13 ∧ (saveR d k s).1.off = true ∧ 0 ≤ d.armed ∧ (saveR d k s).2.1.dead = 13 ∧ (saveR d k s).2.1.kept = k.kept ∧ ∀ keep, ∃ L' c, KR n (startD (saveR d k s).1 keep) L' c k.saves k.kept ∨ KR n (startD (saveR d k s).1 keep) L' c (k.saves + 1) s) := by
 have hsame : ¬ sameS s k.kept = true := fun e => hne (sameS_iff.1 e)
 have hdec := decS_lay (n := k.saves + 1) hm (by omega) hsn
 have hoth' : ∃ x, recS (L (!k.on)) = some x ∧ ∀ y, x = some y → y.1 ≤ k.saves := by
   obtain ⟨x, hx, hy⟩ := h.oth
   exact ⟨x, hx, fun y e => by have := hy y e; omega⟩
 obtain ⟨b, hb⟩ : ∃ b, b = encS (k.saves + 1 : Nat) s := ⟨_, rfl⟩
 rw [← hb] at hdec hb4
 unfold saveR
 rw [if_neg (by rw [h.alive]; decide), if_neg hsame, if_neg (by rw [hm]; decide), ← hb]
 by_cases hf : fitT (k.T k.on) b = true
 · rw [if_pos hf]
   rcases lay_out k.on h.size h.ts h.ar h.alive hdec (of_decide_eq_true hf) hb4 hoth' ⟨k.on, h.cnt, h.oth⟩ with ⟨h1, h2, h3, h4⟩ | h1
   · exact Or.inl ⟨h1, ⟨_, h2⟩, h3, h4⟩
   · exact Or.inr (Or.inr h1)
 · rw [if_neg hf]
   by_cases hg : (k.T (!k.on)).len < 5 + b.length
   · rw [if_pos hg]
     refine Or.inr (Or.inl ⟨rfl, rfl, rfl, ?_⟩)
     have := (h.ar (!k.on)).2
     have := a_half n (!k.on)
     omega
   · rw [if_neg hg]
     obtain ⟨ha, hl⟩ := h.ar (!k.on)
     have hin := a_in n (!k.on)
     have hap := a_apart n (!k.on)
     rw [Bool.not_not] at hap
     have h5l : 5 ≤ aLen n (!k.on) := by rw [← hl]; exact (h.ts (!k.on)).five
     have hwi : Wi d.B (aAt n (!k.on)) (aLen n (!k.on)) (resS d (k.T (!k.on))).1 := (Wi.refl d (h.ts k.on).calm _ _).res (by rw [h.size]; exact hin) ⟨ha, hl⟩ h5l
     rcases reset_steps (h.ts (!k.on)) with ⟨h1, h2, h3, h4, h5⟩ | ⟨h1, h2, h3, h4⟩
     · rw [if_pos h1]
       obtain ⟨k1, hk1⟩ : ∃ k1 : Km, k1 = { k with T := upT k.T (!k.on) (resT (k.T (!k.on)) 0) } := ⟨_, rfl⟩
       have hts1 : ∀ x, TState (resS d (k.T (!k.on))).1 (k1.T x) (upL L (!k.on) [] x) := fun x => by
         rw [hk1]
         rcases bool_or (!k.on) x with rfl | rfl
         · show TState _ (upT k.T _ _ (!k.on)) (upL L (!k.on) [] (!k.on))
           rw [upT_at, upL_at]; exact h2
         · rw [Bool.not_not]
           show TState _ (upT k.T _ _ k.on) _
           rw [upT_oth', upL_oth']
           refine (h.ts k.on).other h2.on h2.calm h4 ?_
           rw [(h.ar k.on).1, (h.ar k.on).2]
           exact hwi.area hap (by rw [h.size]; exact a_in n k.on)
       have har1 : ∀ x, (k1.T x).at_ = aAt n x ∧ (k1.T x).len = aLen n x := fun x => by
         rw [hk1]
         rcases bool_or (!k.on) x with rfl | rfl
         · show (upT k.T _ _ (!k.on)).at_ = _ ∧ (upT k.T _ _ (!k.on)).len = _
           rw [upT_at]; exact ⟨ha, hl⟩
         · rw [Bool.not_not]
           show (upT k.T _ _ k.on).at_ = _ ∧ (upT k.T _ _ k.on).len = _
           rw [upT_oth']; exact h.ar k.on
       have hsv1 : k1.saves = k.saves := by rw [hk1]
       have hkp1 : k1.kept = k.kept := by rw [hk1]
       have hfin : (k1.T (!k.on)).fin + 5 + b.length ≤ (k1.T (!k.on)).len := by
         rw [hk1]
         show (upT k.T _ _ (!k.on)).fin + 5 + b.length ≤ (upT k.T _ _ (!k.on)).len
         rw [upT_at]
         show 0 + 5 + b.length ≤ (k.T (!k.on)).len
         omega
       rw [← hk1]
       rcases lay_out (k := k1) (!k.on) (h4.trans h.size) hts1 har1 (by rw [hk1]; exact h.alive) (by rw [hsv1]; exact hdec) hfin hb4
         ⟨some (k.saves, k.kept), by rw [Bool.not_not, upL_oth']; exact h.cnt, fun y e => by injection e with e; rw [← e, hsv1]; exact Nat.le_refl _⟩
         ⟨k.on, by rw [upL_oth', hsv1, hkp1]; exact h.cnt, none, by rw [upL_at]; rfl, fun y e => by cases e⟩ with ⟨g1, g2, g3, g4⟩ | ⟨g1, g2, g3, g4, g5, g6⟩
       · exact Or.inl ⟨g1, ⟨_, g2⟩, by rw [g3, hsv1], g4⟩
       · refine Or.inr (Or.inr ⟨g1, g2, ?_, g4, by rw [g5, hkp1], fun keep => ?_⟩)
         · by_cases hn : 0 ≤ d.armed
           · exact hn
           · have := res_armed (d := d) (k.T (!k.on)) (by omega)
             omega
         · have := g6 keep
           rw [hsv1, hkp1] at this
           exact this
     · rw [if_neg (by rw [h1]; decide)]
       refine Or.inr (Or.inr ⟨h1, h2, h3, h1, rfl, fun keep => ?_⟩)
       have hws := hwi.start (by rw [h.size]; exact hin) keep
       obtain ⟨h5, h6⟩ := h4 keep
       have hoa := hws.area hap (by rw [h.size]; exact a_in n k.on)
       have rest : ∀ l, Lies (areaT (startD (resS d (k.T (!k.on))).1 keep).B (k.T (!k.on)).at_ (k.T (!k.on)).len) l → ∀ x, Rests (startD (resS d (k.T (!k.on))).1 keep) (aAt n x) (aLen n x) (upL L (!k.on) l x) := fun l hll x => by
         rcases bool_or (!k.on) x with rfl | rfl
         · rw [upL_at]
           exact ⟨rfl, rfl, by rw [h5, h.size]; exact a_in n _, h5l, by rw [← ha, ← hl]; exact hll⟩
         · rw [Bool.not_not, upL_oth']
           refine ⟨rfl, rfl, by rw [h5, h.size]; exact a_in n _, by rw [← (h.ar k.on).2]; exact (h.ts k.on).five, ?_⟩
           rw [hoa, ← (h.ar k.on).1, ← (h.ar k.on).2]
           exact (h.ts k.on).lies
       rcases h6 with h6 | h6
       · refine ⟨_, k.on, Or.inl ⟨h5.trans h.size, rest _ h6, by rw [upL_oth']; exact h.cnt, ?_⟩⟩
         rw [upL_at]; exact h.oth
       · refine ⟨_, k.on, Or.inl ⟨h5.trans h.size, rest _ h6, by rw [upL_oth']; exact h.cnt, ?_⟩⟩
         rw [upL_at]; exact ⟨none, rfl, fun y e => by cases e⟩
end
end Go.Proofs.YtncaefocijainaaGreatDoor.pk
