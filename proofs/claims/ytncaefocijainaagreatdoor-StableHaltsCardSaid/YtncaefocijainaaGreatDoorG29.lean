import Derived.Test.YtncaefocijainaaGreatDoorG28
import Derived.Test.YtncaefocijainaaGreatDoorG13
import Derived.Maps.Own
import Derived.Maps.OwnOps
import Derived.Maps.Range
import Derived.Maps.RangeWalk
import Derived.Maps.Views
namespace Go.Proofs.YtncaefocijainaaGreatDoor.pk
section
open Go Go.RowKit
open Go.Maps (Keyed)
set_option maxRecDepth 100000
/-! ### a block of cells that is written -/
theorem setc {w : World} {b t i : Nat} {a : Array Value} {fz : Nat × Nat} (h : w.heap[b]? = some (.cells a t fz)) (v : Value) : (w.setCell ⟨b, i, none⟩ v).heap[b]? = some (.cells (a.set! i v) t fz) := by
 simp [World.setCell, Array.getElem?_modify, h, Array.set!]
theorem setc_oth {w : World} {b i k : Nat} (v : Value) (h : k ≠ b) : (w.setCell ⟨b, i, none⟩ v).heap[k]? = w.heap[k]? := Below.heap_setCell _ _ _ _ h
/-! ### what is known of others -/
def ptrR (v : Value) : Option (DataW Unit × List MemPlace) := match v with
 | .pointer (some ⟨b, 0, none⟩) => some (.lit (.int .i64 (b : Int)), [])
 | .pointer none => some (.lit (.bool false), [])
 | _ => none
def prCells (p : Pr) : Array Value := #[.int .i64 p.next, .int .i64 p.mat, .int .i64 p.off, .int .i64 p.rnd]
structure KnB (w : World) (T : Nat → Prop) (bm : Nat) (bl : Int → Nat) (D : DataW Unit) (l : List Pr) : Prop where
 own : w.ownsMap Tryz.prog 3 ptrR bm l.length D
 size : Maps.size D = l.length
 has : ∀ x, inI x → Maps.has D (.int .i64 x) = decide (x ∈ l.map Pr.who)
 at_ : ∀ p ∈ l, ∀ zd, D.atKey (.int .i64 p.who) zd = .lit (.int .i64 (bl p.who : Int))
 cell : ∀ p ∈ l, w.heap[bl p.who]? = some (.cells (prCells p) 302 (0, 0))
 inj : ∀ p ∈ l, ∀ q ∈ l, bl p.who = bl q.who → p.who = q.who
 tm : T bm
 tb : ∀ p ∈ l, T (bl p.who)
def KnM (w : World) (T : Nat → Prop) (mk : Option Nat) (l : List Pr) : Prop := (mk = none ∧ l = []) ∨ ∃ bm bl D, mk = some bm ∧ KnB w T bm bl D l
/-! ### a member -/
structure Pl where
 AL : Option Addr
 nL : Nat
 cL : Nat
 AC : Option Addr
 nC : Nat
 cC : Nat
 AS : Option Addr
 nS : Nat
 cS : Nat
 AV : Option Addr
 nV : Nat
 cV : Nat
 mp : Option Nat
 AH : Option Addr
 nH : Nat
 cH : Nat
def kCells (c : Co) (q : Pl) : Array Value :=
 #[.int .i64 c.id, .int .i64 c.span, .int .i64 c.s.term, .int .i64 c.s.vote, .int .i64 c.s.log.base, .int .i64 c.s.log.term, .slice q.AL q.nL q.cL, .slice q.AC q.nC q.cC, .slice q.AS q.nS q.cS,
   .int .i64 c.role, .int .i64 c.leader, .int .i64 c.commit, .int .i64 c.round, .int .i64 c.gone, .int .i64 c.wait, .slice q.AV q.nV q.cV, .map q.mp, .int .i64 c.key, .slice q.AH q.nH q.cH]
structure CB (w : World) (T U : Nat → Prop) (p : Nat) (c : Co) (q : Pl) : Prop where
 cells : w.heap[p]? = some (.cells (kCells c q) 205 (0, 0))
 tp : T p
 tu : ∀ k, T k → U k
 tg : ∀ k, T k → 6 ≤ k
 ul : ∀ k, U k → k < w.heap.size
 ents : EntsT w (Av w U) (.slice q.AL q.nL q.cL) c.s.log.l
 conf : IntsT w (Av w U) (.slice q.AC q.nC q.cC) c.s.conf
 snap : SlT w (Av w U) (.slice q.AS q.nS q.cS) c.s.snap
 hav : SlT w (Av w U) (.slice q.AH q.nH q.cH) c.hav
 votes : w.ownsRow 0 3 1 (.slice q.AV q.nV q.cV) q.nV (c.votes.map (Value.int .i64))
 vn : q.nV = c.votes.length
 tv : ∀ g, (Value.slice q.AV q.nV q.cV).ownBlock = some g → T g ∧ g ≠ p
 lead : c.role = 2 → q.mp.isSome
 known : KnM w (fun k => T k ∧ k ≠ p ∧ ∀ g, (Value.slice q.AV q.nV q.cV).ownBlock = some g → k ≠ g) q.mp c.known
section
variable {w w' : World} {T U : Nat → Prop} {p : Nat} {c : Co} {q : Pl}
theorem KnB.kept {bm : Nat} {bl : Int → Nat} {D : DataW Unit} {l : List Pr} (h : KnB w T bm bl D l) (hk : ∀ k, T k → w'.heap[k]? = w.heap[k]?) : KnB w' T bm bl D l := by
 refine ⟨?_, h.size, h.has, h.at_, fun x hx => (hk _ (h.tb x hx)).trans (h.cell x hx), h.inj, h.tm, h.tb⟩
 obtain ⟨es, clock, hb, F, hs, hD⟩ := h.own
 exact ⟨es, clock, (hk _ h.tm).trans hb, F, hs, hD⟩
theorem KnM.kept {mk : Option Nat} {l : List Pr} (h : KnM w T mk l) (hk : ∀ k, T k → w'.heap[k]? = w.heap[k]?) : KnM w' T mk l :=
 h.imp_right fun ⟨bm, bl, D, e, h⟩ => ⟨bm, bl, D, e, h.kept hk⟩
theorem own_kept2 {base e sz n : Nat} {v : Value} {xs : List Value} (h : w.ownsRow base e sz v n xs) (hk : ∀ g, v.ownBlock = some g → w'.heap[g]? = w.heap[g]?) : w'.ownsRow base e sz v n xs := by
 refine ⟨h.1, ?_⟩
 rcases h.2 with hn | ⟨g, cap, cur, rfl, h1, hg, rest⟩
 · exact Or.inl hn
 · exact Or.inr ⟨g, cap, cur, rfl, h1, (hk g rfl).trans hg, rest⟩
theorem CB.get (h : CB w T U p c q) {i : Nat} {v : Value} (hv : (kCells c q)[i]? = some v) : w.cell? ⟨p, i, none⟩ = some v := by
 rw [cell_of_row w p i _ _ (0, 0) h.cells]; exact hv
theorem CB.fz (h : CB w T U p c q) (i : Nat) : w.frozen? ⟨p, i, none⟩ = false := frozen_own h.cells i
theorem CB.put (h : CB w T U p c q) {c' : Co} (hc : w'.heap[p]? = some (.cells (kCells c' q) 205 (0, 0))) (ho : ∀ k, k ≠ p → w'.heap[k]? = w.heap[k]?) (hs : w'.heap.size = w.heap.size)
   (hl : c'.s.log.l = c.s.log.l) (hf : c'.s.conf = c.s.conf) (hn : c'.s.snap = c.s.snap) (hh : c'.hav = c.hav) (hv : c'.votes = c.votes) (hk : c'.known = c.known) (hr : c'.role = 2 → q.mp.isSome) : CB w' T U p c' q := by
 have hup : U p := h.tu p h.tp
 have ha : ∀ k, Av w U k → k < w.heap.size → w'.heap[k]? = w.heap[k]? := fun k hk' _ => ho k fun e => hk'.2 (e ▸ hup)
 have hm : ∀ k, Av w U k → Av w' U k := fun k hk' => ⟨by rw [hs]; exact hk'.1, hk'.2⟩
 refine ⟨hc, h.tp, h.tu, h.tg, fun k hu => by rw [hs]; exact h.ul k hu, ?_, ?_, ?_, ?_, ?_, ?_, h.tv, hr, ?_⟩
 · rw [hl]; exact h.ents.move ha hm
 · rw [hf]; exact (RowT.kept h.conf ha).mono hm
 · rw [hn]; exact (h.snap.kept ha).mono hm
 · rw [hh]; exact (h.hav.kept ha).mono hm
 · rw [hv]; exact own_kept2 h.votes fun g hg => ho g (h.tv g hg).2
 · rw [hv]; exact h.vn
 · rw [hk]; exact h.known.kept fun k ht => ho k ht.2.1
structure Wf (c : Co) : Prop where
 idr : 1 ≤ c.id ∧ c.id ≤ 64
 spr : 2 ≤ c.span ∧ c.span ≤ 1000
 may : mayE c.s.log = true
 cmay : mayC c.s.conf = true
 mis : c.s.log.l.any misE = false
 trm : (lastE c.s.log).2 ≤ c.s.term ∧ 0 ≤ c.s.term ∧ c.s.term ≤ 1099511627776
 vot : 0 ≤ c.s.vote ∧ c.s.vote ≤ 64
 snp : c.s.snap.length ≤ 2000000
 rol : 0 ≤ c.role ∧ c.role ≤ 2
 led : 0 ≤ c.leader ∧ c.leader ≤ 64
 com : c.s.log.base ≤ c.commit ∧ c.commit ≤ 1099511627776
 rnd : 0 ≤ c.round ∧ c.round ≤ 1152921504606846976
 gon : 0 ≤ c.gone ∧ c.gone ≤ 5000
 wai : 0 ≤ c.wait ∧ c.wait ≤ 5000
 vts : c.votes.Nodup ∧ ∀ v ∈ c.votes, 1 ≤ v ∧ v ≤ 64
 kno : (c.known.map Pr.who).Nodup ∧ ∀ x ∈ c.known, (1 ≤ x.who ∧ x.who ≤ 64) ∧ (1 ≤ x.next ∧ x.next ≤ 2199023255552) ∧ (0 ≤ x.mat ∧ x.mat ≤ 1099511627776) ∧ (0 ≤ x.off ∧ x.off ≤ 1099511627776) ∧ (0 ≤ x.rnd ∧ x.rnd ≤ 1152921504606846976)
 key : inI c.key
 hav : c.hav.length ≤ 1048576
theorem may_ok {l : Lg} (h : mayE l = true) : (0 ≤ l.base ∧ l.base ≤ 1099511627776 ∧ 0 ≤ l.term ∧ l.term ≤ 1099511627776 ∧ l.l.length ≤ 4096) ∧ ∀ e ∈ l.l, (1 ≤ e.index ∧ e.index ≤ 1099511627776) ∧ (1 ≤ e.term ∧ e.term ≤ 1099511627776) ∧ (0 ≤ e.kind ∧ e.kind ≤ 2) ∧ e.data.length ≤ 4096 := by
 have h1 := mayE_iff.1 h
 have h2 := headE_iff.1 h1.1
 refine ⟨⟨h2.1, h2.2.1, h2.2.2.1, h2.2.2.2.1, h2.2.2.2.2.2⟩, fun e he => ?_⟩
 obtain ⟨j, hj, rfl⟩ := List.getElem_of_mem he
 have h3 := behindE_at h1.2 j hj
 exact ⟨h3.2.1 |> fun a => ⟨a, h3.2.2.1⟩, ⟨h3.2.2.2.1, h3.2.2.2.2.2.1⟩, ⟨h3.2.2.2.2.2.2.1, h3.2.2.2.2.2.2.2.1⟩, h3.2.2.2.2.2.2.2.2⟩
theorem mayC_ok {c : List Int} (h : mayC c = true) : (0 < c.length ∧ c.length < 8) ∧ ∀ x ∈ c, 1 ≤ x ∧ x ≤ 64 := by
 have h1 := (mayC_iff c).1 h
 refine ⟨h1.1, fun x hx => ?_⟩
 obtain ⟨j, hj, rfl⟩ := mem_getD.1 hx
 have := h1.2 j hj
 exact ⟨this.1, this.2.1⟩
end
end
end Go.Proofs.YtncaefocijainaaGreatDoor.pk
