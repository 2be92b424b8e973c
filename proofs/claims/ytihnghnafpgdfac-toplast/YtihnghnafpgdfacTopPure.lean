/-
  WHAT IS DONE TO A QUILT, AS LISTS: written, dropped, renamed and back, swapped twice. No program is named here.
-/
import Derived.Test.YtihnghnafpgdfacDoLow
namespace Go.Proofs.Ytihnghnafpgdfac
open Go.RowKit
set_option linter.unusedVariables false
set_option linter.unusedSimpArgs false

theorem has_of_get {l : List Fi} (hg : Good l) {name : ByteArray} {f : Fi} (h : getF l name = some f) : hasF l name = true := by
  rw [← getF_isSome hg, h]; rfl
theorem hasnt_of_get {l : List Fi} (hg : Good l) {name : ByteArray} (h : getF l name = none) : hasF l name = false := by
  rw [← getF_isSome hg, h]; rfl

theorem range_of_fine {t : Int} {r : Res} (h : Fine t r) : 0 ≤ r.n ∧ r.n ≤ 100 := by
  rcases h with ⟨h, _, _⟩ | ⟨h1, h2, _, _⟩ <;> omega
theorem good_of_fine {t : Int} {r : Res} (h : Fine t r) (h0 : r.n = 0) : GoodQ r.l r.t ∧ r.t = t + 1 := by
  rcases h with ⟨_, h1, h2⟩ | ⟨h1, _, _, _⟩
  · exact ⟨h1, h2⟩
  · omega

theorem next_zero {t : Int} {l : List Fi} {n : Int} (h : (nextR t l n).n = 0) : n = 0 ∧ t < 9999 ∧ nextR t l n = ⟨l, t + 1, 0⟩ := by
  unfold nextR at h ⊢
  by_cases hn : n = 0
  · rw [if_neg (by simp [hn])] at h ⊢
    unfold turnR at h ⊢
    by_cases h9 : 9999 ≤ t
    · rw [if_pos h9] at h; exact absurd h (by simp)
    · rw [if_neg h9]; exact ⟨hn, by omega, rfl⟩
  · rw [if_pos hn] at h; exact absurd h hn
theorem next_of {t : Int} {l : List Fi} {n : Int} (hn : n = 0) (h9 : t < 9999) : nextR t l n = ⟨l, t + 1, 0⟩ := by
  unfold nextR turnR
  rw [if_neg (by simp [hn]), if_neg (by omega)]

theorem putN_of {l : List Fi} {f : Fi} (hf : f.fault = 0) (h8 : hasF l f.n = false → l.length < 8) : putN l f = 0 := by
  unfold putN
  rw [if_neg (by simp [hf]), if_neg]
  rintro ⟨h1, h2⟩
  have := h8 h1
  omega
theorem putL_of {l : List Fi} {f : Fi} (h : putN l f = 0) : putL l f = putF l f := by simp [putL, h]

/-! ### Written -/

/-- With as many files as may be, no other one is written. -/
theorem write_many {l : List Fi} {t : Int} (hq : GoodQ l t) {name : ByteArray} (text : ByteArray) (hn : getF l name = none) (h8 : l.length = 8) : ¬ (writeR l t name text).n = 0 := by
  intro h
  obtain ⟨h0, _, _⟩ := next_zero h
  have := (putN_zero h0).2 (hasnt_of_get hq.files hn)
  omega

theorem write_there {l : List Fi} {t : Int} (hq : GoodQ l t) (hlow : Low l t 60) {name : ByteArray} {f : Fi} (text : ByteArray) (hf : getF l name = some f) : (writeR l t name text).n = 0 ↔ text.size ≤ 12 := by
  obtain ⟨fm, fn⟩ := getF_mem hf
  have hk := hlow.2 f fm
  have ht := hlow.1
  have tf := hq.files.times fm
  constructor
  · intro h
    obtain ⟨h0, _, _⟩ := next_zero h
    exact (fault_zero (putN_zero h0).1).2.1
  · intro hx
    have hff : (writeF l name text).fault = 0 := by
      refine fault_of ?_ hx ?_ ?_
      · show nameF name.data.toList = 0; rw [← fn]; exact tf.1
      · show 1 ≤ (getD' (getF l name)).k + 1; rw [hf]; show 1 ≤ f.k + 1; omega
      · show (getD' (getF l name)).k + 1 ≤ 9999; rw [hf]; show f.k + 1 ≤ 9999; omega
    have hp := putN_of hff (fun h => absurd (has_of_get hq.files hf) (by rw [show name = (writeF l name text).n from rfl, h]; decide))
    unfold writeR
    rw [next_of hp (by omega)]

/-- What is written is read; all else is as it was. -/
theorem write_get {l : List Fi} {t : Int} (hq : GoodQ l t) {name text : ByteArray} (h : (writeR l t name text).n = 0) :
    GoodQ (writeR l t name text).l (writeR l t name text).t ∧ getF (writeR l t name text).l name = some (writeF l name text) ∧ ∀ other, ¬ other = name → getF (writeR l t name text).l other = getF l other := by
  obtain ⟨h0, _, e⟩ := next_zero h
  have hp := putN_zero h0
  have hg : Good (putF l (writeF l name text)) := good_put hq.files hp.1 hp.2
  refine ⟨(good_of_fine (write_fine hq name text) h).1, ?_, ?_⟩
  · unfold writeR; rw [e, putL_of h0]; exact get_put_same hq.files hg
  · intro other ho
    unfold writeR; rw [e, putL_of h0]; exact get_put_other hq.files hg ho

/-! ### Dropped -/

theorem dropR_none {l : List Fi} {t : Int} (hq : GoodQ l t) (hlow : Low l t 60) {name : ByteArray} (h : ¬ (dropR' l t name).n = 0) : getF l name = none ∧ (dropR' l t name).n = 5 := by
  have ht := hlow.1
  cases hh : hasF l name
  · refine ⟨getF_hasnt hq.files hh, ?_⟩
    simp [dropR', nextR, dropN, hh]
  · exfalso
    apply h
    unfold dropR'
    rw [next_of (by simp [dropN, hh]) (by omega)]
theorem drop_there {l : List Fi} {t : Int} {name : ByteArray} (h : (dropR' l t name).n = 0) : hasF l name = true ∧ dropR' l t name = ⟨dropF l name, t + 1, 0⟩ := by
  obtain ⟨h0, _, e⟩ := next_zero h
  cases hh : hasF l name
  · rw [dropN, hh] at h0; exact absurd h0 (by simp)
  · refine ⟨rfl, ?_⟩
    unfold dropR'; rw [e]; simp [dropL, hh]

theorem len_drop {l : List Fi} {name : ByteArray} (hh : hasF l name = true) : (dropF l name).length + 1 = l.length := by
  have := (hasF_name hh).1
  unfold dropF
  simp only [List.length_append, List.length_take, List.length_drop]
  omega
theorem len_put_new {l : List Fi} {f : Fi} (hh : hasF l f.n = false) : (putF l f).length = l.length + 1 := by
  have := posF_le l f.n
  unfold putF
  simp only [List.length_append, List.length_take, List.length_cons, List.length_drop, hh]
  simp
  omega
theorem put_set {l : List Fi} {f : Fi} (hh : hasF l f.n = true) : putF l f = l.set (posF l f.n) f := by
  have := (hasF_name hh).1
  unfold putF
  rw [if_pos hh, List.set_eq_take_append_cons_drop, if_pos this]

theorem drop_write {l : List Fi} {t : Int} (hq : GoodQ l t) (hlow : Low l t 60) {name : ByteArray} (text : ByteArray) (hx : text.size ≤ 12) (h : (dropR' l t name).n = 0) :
    GoodQ (dropR' l t name).l (dropR' l t name).t ∧ getF (dropR' l t name).l name = none ∧
      GoodQ (writeR (dropR' l t name).l (dropR' l t name).t name text).l (writeR (dropR' l t name).l (dropR' l t name).t name text).t ∧
      (writeR (dropR' l t name).l (dropR' l t name).t name text).n = 0 ∧ getF (writeR (dropR' l t name).l (dropR' l t name).t name text).l name = some ⟨name, text, 1⟩ ∧
      (writeR (dropR' l t name).l (dropR' l t name).t name text).l.length = l.length := by
  have ht := hlow.1
  have hg1 := (good_of_fine (drop_fine hq name) h).1
  obtain ⟨hh, e⟩ := drop_there h
  rw [e] at hg1 ⊢
  have hnone : getF (dropF l name) name = none := get_drop_same hq.files hh
  obtain ⟨fm, hfm, fn⟩ := (has_iff hq.files name).1 hh
  have tf := hq.files.times hfm
  have hw : writeF (dropF l name) name text = ⟨name, text, 1⟩ := by simp [writeF, hnone, getD']
  have hlen := len_drop hh
  have h8 := hq.files.few
  have hp : putN (dropF l name) ⟨name, text, 1⟩ = 0 := putN_of (fault_of (by show nameF name.data.toList = 0; rw [← fn]; exact tf.1) hx (by simp) (by simp)) (fun _ => by omega)
  have e2 : writeR (dropF l name) (t + 1) name text = ⟨putF (dropF l name) ⟨name, text, 1⟩, t + 1 + 1, 0⟩ := by
    unfold writeR
    rw [hw, next_of hp (by omega), putL_of hp]
  have h0 : (writeR (dropF l name) (t + 1) name text).n = 0 := by rw [e2]
  obtain ⟨w1, w2, w3⟩ := write_get hg1 h0
  refine ⟨hg1, hnone, w1, h0, by rw [w2, hw], ?_⟩
  show (writeR (dropF l name) (t + 1) name text).l.length = _
  rw [e2]
  show (putF (dropF l name) ⟨name, text, 1⟩).length = _
  rw [len_put_new (hasnt_of_get hg1.files hnone)]
  exact hlen

/-! ### Renamed, and back -/

theorem rename_zero {l : List Fi} {t : Int} (hq : GoodQ l t) {a b : ByteArray} (h : (renameR l t a b).n = 0) :
    ∃ f, getF l a = some f ∧ nameF b.data.toList = 0 ∧ getF l b = none ∧ ¬ a = b ∧ Good (putF (dropF l a) ⟨b, f.t, f.k⟩) ∧ renameR l t a b = ⟨putF (dropF l a) ⟨b, f.t, f.k⟩, t + 1, 0⟩ := by
  unfold renameR at h ⊢
  cases hgf : getF l a with
  | none => rw [hgf] at h; exact absurd h (by simp [failR])
  | some f =>
    rw [hgf] at h
    simp only at h ⊢
    by_cases h1 : nameF b.data.toList = 0
    · rw [if_neg (by simp [h1])] at h
      cases h2 : getF l b with
      | some g => rw [h2] at h; exact absurd h (by simp [failR])
      | none =>
        rw [h2] at h
        rw [if_neg (by simp)] at h
        obtain ⟨h0, _, e⟩ := next_zero h
        have hp := putN_zero h0
        refine ⟨f, rfl, h1, rfl, ?_, good_put (good_drop hq.files a) hp.1 hp.2, ?_⟩
        · rintro rfl; rw [hgf] at h2; cases h2
        · rw [if_neg (by simp [h1]), if_neg (by simp), e, putL_of h0]
    · rw [if_pos h1] at h
      exact absurd h h1

theorem rename_back {l : List Fi} {t : Int} (hq : GoodQ l t) (hlow : Low l t 60) {a b : ByteArray} (h : (renameR l t a b).n = 0) :
    GoodQ (renameR l t a b).l (renameR l t a b).t ∧ getF (renameR l t a b).l a = none ∧ renameR (renameR l t a b).l (renameR l t a b).t b a = ⟨l, t + 2, 0⟩ := by
  have ht := hlow.1
  have hg1 := (good_of_fine (rename_fine hq a b) h).1
  obtain ⟨f, hf, hb, hnb, hab, hgp, e⟩ := rename_zero hq h
  rw [e] at hg1 ⊢
  obtain ⟨fm, fn⟩ := getF_mem hf
  have tf := hq.files.times fm
  have hha := has_of_get hq.files hf
  have hgd := good_drop hq.files a
  have hna : getF (putF (dropF l a) ⟨b, f.t, f.k⟩) a = none := by
    rw [get_put_other hgd hgp hab]
    exact get_drop_same hq.files hha
  have hgb : getF (putF (dropF l a) ⟨b, f.t, f.k⟩) b = some ⟨b, f.t, f.k⟩ := get_put_same hgd hgp
  refine ⟨hg1, hna, ?_⟩
  have hhb := has_of_get hgp hgb
  have hgd2 := good_drop hgp b
  have hlen := len_drop hhb
  have hnd : hasF (dropF l a) b = false := by
    apply hasnt_of_get hgd
    rw [get_drop_other hq.files hha (Ne.symm hab)]
    exact hnb
  have hl1 : (putF (dropF l a) ⟨b, f.t, f.k⟩).length = (dropF l a).length + 1 := len_put_new hnd
  have hl2 := len_drop hha
  have h8 := hq.files.few
  have hff : (⟨a, f.t, f.k⟩ : Fi).fault = 0 := fault_of (by show nameF a.data.toList = 0; rw [← fn]; exact tf.1) tf.2.1 tf.2.2.1 tf.2.2.2
  have hp : putN (dropF (putF (dropF l a) ⟨b, f.t, f.k⟩) b) ⟨a, f.t, f.k⟩ = 0 := putN_of hff (fun _ => by omega)
  have hg3 : Good (putF (dropF (putF (dropF l a) ⟨b, f.t, f.k⟩) b) ⟨a, f.t, f.k⟩) := good_put hgd2 hff (fun _ => by omega)
  have hsame : putF (dropF (putF (dropF l a) ⟨b, f.t, f.k⟩) b) ⟨a, f.t, f.k⟩ = l := by
    refine Good.ext hg3 hq.files (fun x => ?_)
    rw [mem_put hgd2, mem_drop hgp hhb, mem_put hgd, mem_drop hq.files hha]
    have e1 : (⟨a, f.t, f.k⟩ : Fi) = f := by cases f; simp_all
    have e2 : ∀ y ∈ l, ¬ y.n = b := fun y hy => get_none.1 hnb y hy
    constructor
    · rintro (rfl | ⟨⟨rfl | ⟨⟨h1, h2⟩, h3⟩, h4⟩, h5⟩)
      · rw [e1]; exact fm
      · exact absurd rfl h4
      · exact h1
    · intro hx
      by_cases hxa : x.n = a
      · left
        rw [e1]
        exact hq.files.uniq hx fm (by rw [hxa, fn])
      · right
        exact ⟨⟨.inr ⟨⟨hx, hxa⟩, e2 x hx⟩, e2 x hx⟩, hxa⟩
  unfold renameR
  rw [hgb]
  simp only
  have e5 : nameF a.data.toList = 0 := by rw [← fn]; exact tf.1
  rw [if_neg (by simp [e5]), hna, if_neg (by simp), next_of hp (by omega), putL_of hp, hsame]
  show (⟨l, t + 1 + 1, 0⟩ : Res) = _
  rw [Int.add_assoc]
  rfl

/-! ### Swapped -/

theorem swap_zero {l : List Fi} {t : Int} {a b : ByteArray} (h : (swapR l t a b).n = 0) :
    ∃ f g, getF l a = some f ∧ getF l b = some g ∧ f.k < 9999 ∧ g.k < 9999 ∧ swapR l t a b = ⟨if a = b then l else swapL l a b f g, t + 1, 0⟩ := by
  unfold swapR at h ⊢
  cases ha : getF l a with
  | none => rw [ha] at h; exact absurd h (by simp [failR])
  | some f =>
    cases hb : getF l b with
    | none => rw [ha, hb] at h; exact absurd h (by simp [failR])
    | some g =>
      rw [ha, hb] at h
      simp only at h ⊢
      split at h
      · exact absurd h (by simp [failR])
      · rename_i hne
        refine ⟨f, g, rfl, rfl, by omega, by omega, ?_⟩
        rw [if_neg hne]
        split at h
        · rename_i hab
          rw [if_pos hab, if_pos hab]
          unfold turnR at h ⊢
          split at h
          · exact absurd h (by simp)
          · rename_i h9; rw [if_neg h9]
        · rename_i hab
          rw [if_neg hab, if_neg hab]
          unfold turnR at h ⊢
          split at h
          · exact absurd h (by simp)
          · rename_i h9; rw [if_neg h9]

theorem names_put {l : List Fi} {f : Fi} (hh : hasF l f.n = true) : (putF l f).map Fi.n = l.map Fi.n := by
  rw [put_set hh, List.map_set]
  obtain ⟨hp, he⟩ := hasF_name hh
  apply List.ext_getElem
  · simp
  · intro i h1 h2
    rw [List.getElem_set]
    split
    · rename_i hi
      subst hi
      simp [he]
    · rfl

/-- What becomes of the texts. -/
structure Swapped (l m : List Fi) (a b : ByteArray) : Prop where
  good : Good m
  names : m.map Fi.n = l.map Fi.n
  first : ∃ f g h k, getF l a = some f ∧ getF l b = some g ∧ getF m a = some h ∧ getF m b = some k ∧ h.t = g.t ∧ k.t = f.t ∧ h.k ≤ f.k + 1 ∧ k.k ≤ g.k + 1
  other : ∀ c, ¬ c = a → ¬ c = b → getF m c = getF l c

theorem swapped_of {l : List Fi} {t : Int} (hq : GoodQ l t) {a b : ByteArray} (h : (swapR l t a b).n = 0) : Swapped l (swapR l t a b).l a b ∧ GoodQ (swapR l t a b).l (swapR l t a b).t ∧ (swapR l t a b).t = t + 1 := by
  have hgf := good_of_fine (swap_fine hq a b) h
  obtain ⟨f, g, ha, hb, h1, h2, e⟩ := swap_zero h
  refine ⟨?_, hgf.1, hgf.2⟩
  rw [e]
  by_cases hab : a = b
  · subst hab
    rw [ha] at hb
    cases hb
    simp only [if_true]
    exact ⟨hq.files, rfl, ⟨f, f, f, f, ha, ha, ha, ha, rfl, rfl, by omega, by omega⟩, fun c _ _ => rfl⟩
  · simp only [if_neg hab]
    obtain ⟨p1, g1, p2, g2⟩ := swap_ok hq.files ha hb h1 h2 hab
    have hha : hasF l a = true := has_of_get hq.files ha
    have hhb : hasF l b = true := has_of_get hq.files hb
    have gb1 : getF (putF l ⟨a, g.t, f.k + 1⟩) b = some g := by
      rw [get_put_other hq.files g1 (Ne.symm hab)]; exact hb
    have hhb1 : hasF (putF l ⟨a, g.t, f.k + 1⟩) b = true := has_of_get g1 gb1
    refine ⟨g2, ?_, ⟨f, g, ⟨a, g.t, f.k + 1⟩, ⟨b, f.t, g.k + 1⟩, ha, hb, ?_, ?_, rfl, rfl, by simp, by simp⟩, ?_⟩
    · show (putF (putF l ⟨a, g.t, f.k + 1⟩) ⟨b, f.t, g.k + 1⟩).map Fi.n = _
      rw [names_put (f := ⟨b, f.t, g.k + 1⟩) hhb1, names_put (f := ⟨a, g.t, f.k + 1⟩) hha]
    · show getF (putF (putF l ⟨a, g.t, f.k + 1⟩) ⟨b, f.t, g.k + 1⟩) a = _
      rw [get_put_other g1 g2 (show ¬ a = (⟨b, f.t, g.k + 1⟩ : Fi).n from hab)]
      exact get_put_same hq.files g1
    · exact get_put_same g1 g2
    · intro c hca hcb
      show getF (putF (putF l ⟨a, g.t, f.k + 1⟩) ⟨b, f.t, g.k + 1⟩) c = _
      rw [get_put_other g1 g2 (show ¬ c = (⟨b, f.t, g.k + 1⟩ : Fi).n from hcb), get_put_other hq.files g1 (show ¬ c = (⟨a, g.t, f.k + 1⟩ : Fi).n from hca)]

theorem swap_of {l : List Fi} {t : Int} {a b : ByteArray} {f g : Fi} (ha : getF l a = some f) (hb : getF l b = some g) (h1 : f.k < 9999) (h2 : g.k < 9999) (h9 : t < 9999) : (swapR l t a b).n = 0 := by
  unfold swapR
  rw [ha, hb]
  simp only
  rw [if_neg (by omega)]
  split <;> (unfold turnR; rw [if_neg (by omega)])

/-- Swapped twice. -/
theorem swap_twice {l : List Fi} {t : Int} (hq : GoodQ l t) (hlow : Low l t 60) {a b : ByteArray} (h : (swapR l t a b).n = 0) :
    (swapR (swapR l t a b).l (swapR l t a b).t a b).n = 0 ∧ (swapR (swapR l t a b).l (swapR l t a b).t a b).l.map Fi.n = l.map Fi.n ∧
      (swapR (swapR l t a b).l (swapR l t a b).t a b).l.map Fi.t = l.map Fi.t ∧ (swapR l t a b).l.length = l.length := by
  have ht := hlow.1
  obtain ⟨sw, hq1, e1⟩ := swapped_of hq h
  obtain ⟨f, g, hh, kk, ha, hb, ma, mb, t1, t2, k1, k2⟩ := sw.first
  have hfk := hlow.2 f (getF_mem ha).1
  have hgk := hlow.2 g (getF_mem hb).1
  have h2 : (swapR (swapR l t a b).l (swapR l t a b).t a b).n = 0 := swap_of ma mb (by omega) (by omega) (by omega)
  obtain ⟨sv, hq2, _⟩ := swapped_of hq1 h2
  have hnames := sv.names.trans sw.names
  have hlen1 : (swapR l t a b).l.length = l.length := by have := congrArg List.length sw.names; simpa using this
  refine ⟨h2, hnames, ?_, hlen1⟩
  obtain ⟨f', g', h', k', ha', hb', ma', mb', t1', t2', _, _⟩ := sv.first
  rw [ma] at ha'
  rw [mb] at hb'
  cases ha'
  cases hb'
  generalize (swapR (swapR l t a b).l (swapR l t a b).t a b).l = y at *
  have hlen : y.length = l.length := by have := congrArg List.length hnames; simpa using this
  apply List.ext_getElem
  · simpa using hlen
  · intro i i1 i2
    simp only [List.length_map] at i1 i2
    rw [List.getElem_map, List.getElem_map]
    have en : y[i].n = l[i].n := by
      have := List.getElem_of_eq hnames (i := i) (by simpa using i1)
      simpa using this
    have gy : getF y l[i].n = some y[i] := (sv.good.get_iff).2 ⟨List.getElem_mem i1, en⟩
    have gl : getF l l[i].n = some l[i] := (hq.files.get_iff).2 ⟨List.getElem_mem i2, rfl⟩
    by_cases ca : l[i].n = a
    · rw [ca] at gy gl
      rw [ma'] at gy
      rw [ha] at gl
      cases gy; cases gl
      rw [t1', t2]
    · by_cases cb : l[i].n = b
      · rw [cb] at gy gl
        rw [mb'] at gy
        rw [hb] at gl
        cases gy; cases gl
        rw [t2', t1]
      · rw [sv.other _ ca cb, sw.other _ ca cb, gl] at gy
        rw [Option.some.inj gy]

end Go.Proofs.Ytihnghnafpgdfac
