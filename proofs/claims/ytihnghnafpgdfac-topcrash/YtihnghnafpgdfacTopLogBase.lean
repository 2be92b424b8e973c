/-
  TopLog: WHAT BECOMES OF A LOG WHEN ITS DISK FALLS.
-/
import Derived.Test.YtihnghnafpgdfacLogSaysBase
import Derived.Test.YtihnghnafpgdfacOpenDeeds
namespace Go.Proofs.Ytihnghnafpgdfac
open Go.RowKit Go.BigFrame
set_option linter.unusedVariables false
set_option linter.unusedSimpArgs false

theorem writesD_len : ∀ (l : List ByteArray) (d : Dk) (a : Nat), (writesD d a l).1.wr.length ≤ d.wr.length + l.length
  | [], d, a => by simp [writesD]
  | s :: r, d, a => by
    have h1 := writeD_len d (a : Int) s
    have h2 := writesD_len r (writeD d (a : Int) s) (a + 1)
    rw [writesD]
    split
    · simp only [List.length_cons]; omega
    · simp only [List.length_cons]; omega
theorem layD_len2 (d : Dk) (a : Nat) (l : List ByteArray) : (layD d a l).1.wr.length ≤ d.wr.length + l.length := by
  have h := writesD_len l d a
  unfold layD
  split
  · show (flushD (writesD d a l).1).wr.length ≤ _
    unfold flushD
    have h3 := (stepD_rest (writesD d a l).1).2.2.1
    split
    · simp
    · rw [h3]; exact h
  · exact h
theorem changeF_two (c : Ch) : changeF c = 0 ∨ changeF c = 2 ∨ changeF c = 3 := by
  unfold changeF
  split
  · exact .inr (.inr rfl)
  · split
    · exact .inr (.inl rfl)
    · exact .inl rfl
theorem faultL_two : ∀ l : List Ch, faultL l = 0 ∨ faultL l = 2 ∨ faultL l = 3
  | [] => .inl rfl
  | c :: l => by
    unfold faultL
    split
    · exact faultL_two l
    · exact changeF_two c
/-- What Add comes to: it is refused; the deed is there; or the disk fell, and the deed is there or not. -/
theorem addD_cases {g : Lg} {d : Dk} {c : List Ch} {D : List (List Ch)} (hg : LgOk g) (hf : 1 ≤ g.first) (hin : g.start + g.many ≤ d.now.length) (hc : Clean d) (h14 : ¬ 14 < c.length) (hlog : logOf rdC d.now g.start g.many g.first = (D, g.used)) :
    (¬ (addD g d c).2 = 0 ∧ ¬ (addD g d c).2 = 8 ∧ 0 ≤ (addD g d c).2 ∧ (addD g d c).2 ≤ 100 ∧ (addD g d c).1 = d) ∨
    ((addD g d c).2 = 0 ∧ Clean (addD g d c).1 ∧ (addD g d c).1.now.length = d.now.length ∧ logOf rdC (addD g d c).1.now g.start g.many g.first = (D ++ [c], g.used + c.length + 1)) ∨
    ((addD g d c).2 = 8 ∧ (addD g d c).1.wr.length ≤ 100 ∧ Fell (addD g d c).1 (fun k => k.length = d.now.length ∧ ((logOf rdC k g.start g.many g.first).1 = D ∨ (logOf rdC k g.start g.many g.first).1 = D ++ [c]))) := by
  have h1 := hg.start
  have h2 := hg.used
  have h3 := hg.first
  unfold addD
  rw [if_neg h14]
  by_cases hroom : g.many - g.used < c.length + 1
  · left
    rw [if_pos hroom]
    exact ⟨(show ¬ (7 : Int) = 0 by decide), (show ¬ (7 : Int) = 8 by decide), (show (0 : Int) ≤ 7 by decide), (show (7 : Int) ≤ 100 by decide), rfl⟩
  rw [if_neg hroom]
  by_cases hok : faultL c = 0
  · right
    rw [if_neg (by simpa using hok)]
    obtain ⟨m, hm⟩ : ∃ m, m = min (c.length + 2) (g.many - g.used) := ⟨_, rfl⟩
    rw [← hm]
    have hsm : ∀ s ∈ List.replicate m (⟨#[]⟩ : ByteArray), s.size ≤ 40 := by intro s hs; rw [List.eq_of_mem_replicate hs]; decide
    have e : padD ⟨#[]⟩ = blank := by decide
    have hcg : ∀ x ∈ c, rdC (bytesC x) = some x ∧ (bytesC x).length ≤ 33 := fun x hx => ⟨rdC_bytesC (faultL_all hok x hx), by have := bytesC_len (faultL_all hok x hx); omega⟩
    have hlen1 := layD_len2 d (g.start + g.used) (List.replicate m ⟨#[]⟩)
    rw [hc.wr, List.length_replicate] at hlen1
    rcases layD_any d (g.start + g.used) (List.replicate m ⟨#[]⟩) hc (by simp; omega) hsm with ⟨k1, k2, k3, k4⟩ | ⟨k1, k2, k3⟩
    · rw [if_neg (by simpa using k1)]
      rw [List.map_replicate, e] at k3
      have hl1 : (layD d (g.start + g.used) (List.replicate m ⟨#[]⟩)).1.now.length = d.now.length := by rw [k3, laidL_length]
      have hlen2 := layD_len2 (layD d (g.start + g.used) (List.replicate m ⟨#[]⟩)).1 (g.start + g.used) (deedT g.first g.used c c.length)
      rw [k2.wr, deedT_length] at hlen2
      rcases layD_any (layD d (g.start + g.used) (List.replicate m ⟨#[]⟩)).1 (g.start + g.used) (deedT g.first g.used c c.length) k2 (by rw [hl1, deedT_length]; omega) (deedT_small _ _ _ _ (faultL_all hok)) with ⟨q1, q2, q3, q4⟩ | ⟨q1, q2, q3⟩
      · left
        refine ⟨q1, q2, by rw [q3, laidL_length, hl1], ?_⟩
        rw [q3, k3, deedT_pad]
        exact log_laid rdC (firstOk hf (by omega)) (by omega) hin hm (by omega) hlog hcg
      · right
        refine ⟨q1, by simp at hlen2; omega, q3.down, fun keep => ?_⟩
        have hx := q3.may keep
        refine ⟨by rw [hx.1, hl1], ?_⟩
        rw [k3, deedT_pad] at hx
        rcases log_laying rdC (firstOk hf (by omega)) (by omega) hin hm (by omega) hlog hcg hx with h | h
        · left; rw [h]
        · right; rw [h]
    · right
      rw [if_pos (by rw [k1]; decide)]
      refine ⟨k1, by simp at hlen1; omega, k3.down, fun keep => ?_⟩
      have hx := k3.may keep
      refine ⟨hx.1, .inl ?_⟩
      rw [List.map_replicate, e] at hx
      have := log_blanking rdC (firstOk hf (by omega)) (by omega) hin (by omega) hlog hx
      rw [this]
  · left
    rw [if_pos hok]
    rcases faultL_two c with h | h | h
    · exact absurd h hok
    · exact ⟨hok, by simp only; rw [h]; decide, by simp only; rw [h]; decide, by simp only; rw [h]; decide, rfl⟩
    · exact ⟨hok, by simp only; rw [h]; decide, by simp only; rw [h]; decide, by simp only; rw [h]; decide, rfl⟩
set_option maxRecDepth 100000 in
theorem topNumber_any (n : Int) (w : World) (h0 : ¬ n = 0) (h1 : 0 ≤ n ∧ n ≤ 100) :
    Calls Try.prog 11 #[.iface 75 (.int .i64 n)] w fun e w' => e = .returned (.int .i64 n) ∧ w' = w := by
  have ha := assert_yes (.int .i64 n)
  go_enter Try.func11, Try.ntmps11
  go_wp2
  all_goals
    go_ret
    exact ⟨rfl, rfl⟩

/-- What holds from deed to deed. -/
structure TlMid (w wr : World) (B b u m : Nat) (p : Dp) (d : Dk) (wa : Option Addr) (wc : Nat) (Q : List PartC) : Prop where
  disk : DiskAt wr p d
  pB : p.B = B
  lo : w.heap.size ≤ p.lo
  log : LogAt wr b ⟨B, 1, 59, 5, u⟩
  blo : w.heap.size ≤ b
  clean : Clean d
  len : d.now.length = 60
  said : logOf rdC d.now 1 59 5 = (Q.map (·.l), u)
  want : Deeds w.heap.size wr wa wc Q
  few : Q.length ≤ m
  below : Below w.heap.size w wr
theorem TlMid.go {w wr wx : World} {B b u m : Nat} {p : Dp} {d : Dk} {wa : Option Addr} {wc : Nat} {Q : List PartC} (h : TlMid w wr B b u m p d wa wc Q) (hb : Below wr.heap.size wr wx) : TlMid w wx B b u m p d wa wc Q :=
  ⟨h.disk.below hb, h.pB, h.lo, h.log.below hb, h.blo, h.clean, h.len, h.said, h.want.calm (Calm.of_below hb), h.few, h.below.trans (hb.mono h.below.size)⟩
theorem TlMid.ok {w wr : World} {B b u m : Nat} {p : Dp} {d : Dk} {wa : Option Addr} {wc : Nat} {Q : List PartC} (h : TlMid w wr B b u m p d wa wc Q) : LgOk ⟨B, 1, 59, 5, u⟩ := by
  refine ⟨by simp, by simp, ?_⟩
  have := logOf_le rdC (first := 5) (show 1 + 59 ≤ d.now.length by rw [h.len]; omega)
  rw [h.said] at this
  exact this
/-- What holds behind the loop: whatever is kept, the log has the deeds that are wanted, or the last ones. -/
structure TlEnd (w wr : World) (B : Nat) (p : Dp) (d : Dk) (wa : Option Addr) (wc : Nat) (Q : List PartC) (la : Option Addr) (lc : Nat) (L : List PartC) : Prop where
  disk : DiskAt wr p d
  pB : p.B = B
  lo : w.heap.size ≤ p.lo
  few : d.wr.length ≤ 100
  fate : ∀ keep, (restartD d keep).now.length = 60 ∧ ((logOf rdC (restartD d keep).now 1 59 5).1 = Q.map (·.l) ∨ (logOf rdC (restartD d keep).now 1 59 5).1 = L.map (·.l))
  want : Deeds w.heap.size wr wa wc Q
  last : Deeds w.heap.size wr la lc L
  lens : Q.length ≤ 100 ∧ L.length ≤ 100
  below : Below w.heap.size w wr
theorem TlMid.stop {w wr : World} {B b u m : Nat} {p : Dp} {d : Dk} {wa : Option Addr} {wc : Nat} {Q : List PartC} (h : TlMid w wr B b u m p d wa wc Q) (hm : m ≤ 100) : TlEnd w wr B p d wa wc Q wa wc Q := by
  refine ⟨h.disk, h.pB, h.lo, by rw [h.clean.wr]; simp, fun keep => ?_, h.want, h.want, by have := h.few; omega, h.below⟩
  rw [h.clean.restart keep]
  exact ⟨h.len, .inl (by rw [h.said])⟩
theorem TlMid.refused {w wr w3 w9 : World} {B b u m : Nat} {p : Dp} {d : Dk} {wa : Option Addr} {wc : Nat} {Q : List PartC} {v : Value} (h : TlMid w wr B b u m p d wa wc Q) (ha : AddAt wr w3 b ⟨B, 1, 59, 5, u⟩ p v d) (hb : Below w3.heap.size w3 w9) : TlMid w w9 B b u (m + 1) { p with wv := v } d wa wc Q := by
  have hc : Calm w.heap.size wr w3 := addAt_calm ha h.disk h.log h.lo h.blo
  have hr : TlMid w w3 B b u (m + 1) { p with wv := v } d wa wc Q := ⟨ha.disk, h.pB, h.lo, ha.log, h.blo, h.clean, h.len, h.said, h.want.calm hc, Nat.le_succ_of_le h.few, h.below.trans (hc.below h.below.size)⟩
  exact hr.go hb
theorem tl_deeds {w wr w3 w9 : World} {B b u m : Nat} {p : Dp} {d D : Dk} {wa : Option Addr} {wc : Nat} {Q : List PartC} {g' : Lg} {v : Value} {q : PartC} {ya : Option Addr} {yc : Nat} (h : TlMid w wr B b u m p d wa wc Q) (ha : AddAt wr w3 b g' p v D) (hb : Below w3.heap.size w3 w9) (hcc : CC w q.a q.l) (hq : q.l.length ≤ 1000)
    (hrow : w9.ownsRow w3.heap.size 30 1 (.slice ya (Q.length + 1) yc) (Q.length + 1) (Q.map PartC.v ++ [q.v])) : Deeds w.heap.size w9 ya yc (Q ++ [q]) ∧ Deeds w.heap.size w9 wa wc Q ∧ Below w.heap.size w w9 := by
  have hc : Calm w.heap.size wr w3 := addAt_calm ha h.disk h.log h.lo h.blo
  have hb7 : Below w.heap.size w w3 := h.below.trans (hc.below h.below.size)
  have hb9 : Below w.heap.size w w9 := hb7.trans (hb.mono hb7.size)
  exact ⟨Deeds.one hrow (fun r hr => CC.calm (CC.calm (h.want.parts r hr) hc) (Calm.of_below hb)) (part_in hcc hb9) h.want.few hq, (h.want.calm hc).calm (Calm.of_below hb), hb9⟩
theorem run_copyD {lo : Nat} (ty : TypeId) (W : World) (a : Option Addr) (cap : Nat) (P : List PartC) (hl : P.length ≤ 1000) (hd : Deeds lo W a cap P) :
    ∃ xa xc w', (Builtin.append_ #[22, 22] ty #[.slice none 0 0, .slice a P.length cap]).run Try.prog W = .ok (.slice xa P.length xc) w' ∧ w'.ownsRow W.heap.size 30 1 (.slice xa P.length xc) P.length (P.map PartC.v) ∧ Below W.heap.size W w' := by
  obtain ⟨i0, hi, hz0, hz1, hz2⟩ := info_parts Try.infoChanges
  have hown : W.ownsRow W.heap.size 30 1 (.slice none 0 0) 0 [] := World.ownsRow_nil _ _ _ _
  cases a with
  | none =>
    have e : P = [] := by
      cases P with
      | nil => rfl
      | cons g r => obtain ⟨_, _, e, _⟩ := hd.cell 0 (by simp); cases e
    subst e
    have e := hd.nil rfl
    subst e
    exact ⟨none, 0, W, run_append_owned_none (P := Try.prog) (w := W) W.heap.size 22 ty 30 i0 1 (by kernel_rfl) hi _ _ _ hown, hown, Below.refl _ _⟩
  | some p =>
    have hcells : ∀ q u, (P.map PartC.v)[q]? = some u → W.cell? (p.add q) = some u := by
      intro q u hu
      rw [List.getElem?_map] at hu
      have hq : q < P.length := by
        by_cases hq : q < P.length
        · exact hq
        · rw [List.getElem?_eq_none (by omega)] at hu; cases hu
      rw [List.getElem?_eq_getElem hq] at hu
      simp at hu
      subst hu
      obtain ⟨b, off, e, h1, _⟩ := hd.cell q hq
      rw [Option.some.inj e, addr_add]
      exact h1
    obtain ⟨v', w', hr, h2, h3, h4⟩ := run_append_new (P := Try.prog) (w := W) W.heap.size 22 ty 30 i0 _ 1 24 (by kernel_rfl) hi hz0 hz1 hz2 rfl (by decide) _ _ _ hown p P.length cap (P.map PartC.v) (by simp) hcells (partV_one P) (by unfold maxLen; simp; omega) (by simp; omega) (Nat.le_refl _)
    rw [Nat.zero_add, List.nil_append] at h2
    obtain ⟨xa, xc, rfl⟩ := row_shape h2
    exact ⟨xa, xc, w', hr, h2, (Below.refl _ _).grown h3 (Nat.le_refl _) (fun q hq => (hown.lt q hq).1)⟩
/-- Deeds and one more: how the two appends run. -/
theorem run_moreD {lo : Nat} (ty : TypeId) (W : World) (a : Option Addr) (cap : Nat) (P : List PartC) (q : PartC) (hl : P.length ≤ 900) (hd : Deeds lo W a cap P) (hq : ∀ w', Below W.heap.size W w' → PartS lo w' q) (hql : q.l.length ≤ 1000) :
    ∃ xa xc w', (Builtin.append_ #[22, 22] ty #[.slice none 0 0, .slice a P.length cap]).run Try.prog W = .ok (.slice xa P.length xc) w' ∧
      ∃ za zc w'', (Builtin.append_ #[22, 22] ty #[.slice xa P.length xc, .slice (some ⟨w'.heap.size, 0, none⟩) 1 1]).run Try.prog (w'.alloc (.cells #[.slice q.a q.l.length q.cap] 30)) = .ok (.slice za (P.length + 1) zc) w'' ∧ Deeds lo w'' za zc (P ++ [q]) ∧ Below W.heap.size W w'' := by
  obtain ⟨xa, xc, w', hr, hrow, hb⟩ := run_copyD ty W a cap P (by omega) hd
  obtain ⟨i0, hi, hz0, hz1, hz2⟩ := info_parts Try.infoChanges
  have hro : (w'.alloc (.cells #[.slice q.a q.l.length q.cap] 30)).ownsRow W.heap.size 30 1 (.slice xa P.length xc) P.length (P.map PartC.v) := ownsRow_far hrow (fun k hk => ((Below.refl w'.heap.size w').alloc (Nat.le_refl _) _).block k (hrow.lt k hk).2)
  have hbo : Below W.heap.size W (w'.alloc (.cells #[.slice q.a q.l.length q.cap] 30)) := hb.alloc hb.size _
  obtain ⟨v', w'', hr2, h2, h3, h4⟩ := run_append_new (P := Try.prog) (w := w'.alloc (.cells #[.slice q.a q.l.length q.cap] 30)) W.heap.size 22 ty 30 i0 _ 1 24 (by kernel_rfl) hi hz0 hz1 hz2 rfl (by decide) _ _ _ hro ⟨w'.heap.size, 0, none⟩ 1 1 [.slice q.a q.l.length q.cap] rfl (cell_one_new _ _ _) (one_oneV _ _ _) (by unfold maxLen; omega) (by omega) hbo.size
  obtain ⟨za, zc, rfl⟩ := row_shape h2
  have hb2 : Below W.heap.size W w'' := hbo.grown h3 hbo.size (fun k hk => (hro.lt k hk).1)
  exact ⟨xa, xc, w', hr, za, zc, w'', hr2, Deeds.one h2 (fun r hr => CC.calm (hd.parts r hr) (Calm.of_below hb2)) (hq w'' hb2) hd.few hql, hb2⟩
theorem wpList_run {P : Program} {ops : Array Oper} {rest : List Oper} {o : Oper} {a : Act} {w : World} {Q : Exit → Act → World → Prop} (hw : Region.wanted o (yielded ops a.tmps) = true) (s x : Operand) (t : TypeId)
    (ho : o.op = .call { callee := .builtin .append, args := #[s, x], argTypes := #[t, t] }) (v1 v2 : Value) (hs : a.eval s = v1) (hx : a.eval x = v2) (v : Value) (w' : World) (hr : (Builtin.append_ #[t, t] o.type #[v1, v2]).run P w = .ok v w')
    (h : wpList P ops Q rest (a.put o.dst v) w') : wpList P ops Q (o :: rest) a w :=
  wpList_step fun K hK => by
    rw [if_pos hw]
    unfold Oper.wp execOp
    simp only [ho, resolve, invoke, builtin, Sem.run_bind, Sem.run_pure, Result.andThen_ok, List.map_toArray, List.map_cons, List.map_nil, hs, hx, hr]
    exact hK _ _ h
def zz : Ch := ⟨⟨#[122]⟩, ⟨#[122]⟩, false⟩
/-- Behind an Add with the fuse out: the disk, and the log's deeds. -/
theorem LsMid.freed {w wr w3 : World} {N start many first B b u m : Nat} {p : Dp} {d : Dk} {ga : Option Addr} {gc : Nat} {P : List PartC} {wa : Option Addr} {wc : Nat} {Q : List PartC} {v : Value} {c : List Ch} (h : LsMid w wr N start many first B b u m p d ga gc P wa wc Q) (hin : start + many ≤ N) (hN : N ≤ 60) (hf1 : 1 ≤ first) (hf : first ≤ 4000000)
    (h14 : ¬ 14 < c.length) (hroom : ¬ many - u < c.length + 1) (hok : faultL c = 0) (ha : AddAt wr w3 b ⟨B, start, many, first, u + c.length + 1⟩ p v (addD ⟨B, start, many, first, u⟩ d c).1) :
    ∃ D', DiskAt w3 { p with wv := v } D' ∧ D'.down = false ∧ D'.now.length = N ∧ (logOf rdC D'.now start many first).1 = Q.map (·.l) ++ [c] ∧ Calm w.heap.size wr w3 := by
  obtain ⟨a1, a2, a3, a4, a5, a6⟩ := addD_free (g := ⟨B, start, many, first, u⟩) (d := d) (c := c) (D := Q.map (·.l)) (h.ok hin hN hf) hf1 (by rw [h.free.len]; exact hin) h.free.up h.free.left h14 hroom hok h.said
  exact ⟨_, ha.disk, a2, by rw [a5]; exact h.free.len, by simp only at a6; rw [a6], addAt_calm ha h.disk h.log h.lo h.blo⟩
theorem TlEnd.opened {w Wz w8 w9 : World} {B b2 : Nat} {p : Dp} {d dr : Dk} {K : Nat} {wa la ga : Option Addr} {wc lc gc base : Nat} {Q L P2 : List PartC} {vo : Value} {opn : List Ch} (h : TlEnd w Wz B p d wa wc Q la lc L) (hdr : dr = restartD d K) (hn : Near p Wz w8) (hb2 : w8.heap.size ≤ b2)
    (hlog : LogAt w9 b2 ⟨B, 1, 59, 5, (logOf rdC dr.now 1 59 5).2⟩) (hds : DS w9 w8.heap.size base (.slice ga P2.length gc) vo P2 opn) (hP : P2.map (·.l) = (logOf rdC dr.now 1 59 5).1) (hd : DiskAt w9 { p with wv := .slice none 0 0 } dr) (hbe : Below w8.heap.size w8 w9) (hPl : P2.length ≤ 59) :
    LsMid w w9 60 1 59 5 B b2 (logOf rdC dr.now 1 59 5).2 60 { p with wv := .slice none 0 0 } dr ga gc P2 ga gc P2 ∧ Deeds w.heap.size w9 wa wc Q ∧ Deeds w.heap.size w9 la lc L ∧ (P2.map (·.l) = Q.map (·.l) ∨ P2.map (·.l) = L.map (·.l)) := by
  have hc : Calm w.heap.size Wz w8 := hn.touch.calm (fun k hk => dOwn_safe h.disk h.lo hk)
  have hb8 : Below w.heap.size w w8 := h.below.trans (hc.below h.below.size)
  obtain ⟨hl60, hfate⟩ := h.fate K
  rw [← hdr] at hl60 hfate
  have hD : Deeds w.heap.size w9 ga gc P2 := hds.deeds (parts_len hP (logOf_len (by rw [hl60]; omega) (by omega)))
  refine ⟨⟨hd, h.pB, h.lo, hlog, Nat.le_trans hb8.size hb2, ⟨by rw [hdr]; rfl, by rw [hdr]; exact (by decide : (-1 : Int) < 0), by rw [hdr]; simp [restartD], hl60⟩, by rw [hP], hD, hD, rfl, by omega, hb8.trans (hbe.mono hb8.size)⟩, (h.want.calm hc).calm (Calm.of_below hbe), (h.last.calm hc).calm (Calm.of_below hbe), by rw [hP]; exact hfate⟩
end Go.Proofs.Ytihnghnafpgdfac
