/- He -/
import Derived.Test.YtbpdapcmaioeiaaGreatKHb
import Derived.Test.YtbpdapcmaioeiaaGreatKHc
namespace Go.Proofs.YtbpdapcmaioeiaaGreat
open Go.RowKit Go.Maps
set_option maxRecDepth 100000
set_option linter.unusedVariables false
/-- A node that was changed, in the memory alone, at the end of a way whose other nodes stand on their pages. -/
structure Chg (N : Nat) (H : Lg) {n R : Nat} (p : BT.Path Ent n R) (c : BT Ent n) : Prop where
 pst : PStored N H p c.page
 kept : ∀ x ∈ c.items, Kept N H x
 near : ∀ x ∈ c.items, x.Ok
 prop : p.Proper
 nodup : (H.free ++ (p.plug c).pages).Nodup
 range : ∀ q ∈ H.free ++ (p.plug c).pages, 1 ≤ q ∧ q < N
 small : ∀ x ∈ c.items, isz x ≤ 502
 three : ∃ a b d, c.items = a ++ (b ++ d) ∧ Parts.size isz a ≤ 502 ∧ Parts.size isz b ≤ 502 ∧ Parts.size isz d ≤ 502
 few : c.items.length ≤ 600
 room : 2 * p.len + 3 ≤ H.free.length
 some : n ≠ 0 → c.items ≠ []
 high : R ≤ 10
 most : N ≤ 2000
theorem size_flat {n : Nat} {a b d : List (BT.Item Ent n)} (ha : Parts.size isz a ≤ 502) (hb : Parts.size isz b ≤ 502) (hd : Parts.size isz d ≤ 502) : (Parts.parts isz 502 (a ++ (b ++ d))).length ≤ 3 := by
 have := Parts.fewest (sz := isz) (M := 502) [a, b, d] (fun l hl => by
  simp only [List.mem_cons, List.not_mem_nil, or_false] at hl
  rcases hl with rfl | rfl | rfl <;> assumption)
 rcases this with h | h
 ·have e : [a, b, d].flatten = a ++ (b ++ d) := by simp
  rw [e] at h
  exact h
 ·cases h
theorem kept_ok {N : Nat} {H : Lg} {n : Nat} {x : BT.Item Ent n} (h : Kept N H x) : EntOk (ient x) := by
 cases n with
 | zero => exact LeafE.ok h
 | succ n => exact ⟨by show (0 : Nat) ≤ _; omega, by show (0 : Nat) ≤ _; omega⟩
theorem enc_kids {n : Nat} (l : List (BT.Item Ent (n + 1))) : (encs ((n + 1 : Nat) : Int) (l.map ient)).length = 2 * l.length := by
 induction l with
 | nil => rfl
 | cons x t ih =>
  rw [List.map_cons, show encs ((n + 1 : Nat) : Int) (ient x :: t.map ient) = encE ((n + 1 : Nat) : Int) (ient x) ++ encs ((n + 1 : Nat) : Int) (t.map ient) from rfl, List.length_append, ih, List.length_cons]
  unfold encE
  rw [if_pos (by omega), List.length_append, le_length, le_length]; omega
theorem size_kids {n : Nat} (l : List (BT.Item Ent (n + 1))) : Parts.size isz l = 2 * l.length := by
 unfold Parts.size
 induction l with
 | nil => rfl
 | cons x t ih => rw [List.map_cons, List.sum_cons, ih, List.length_cons]; show 2 + _ = _; omega
/-- What fits a page may lie on one. -/
theorem part_fits {N : Nat} {H : Lg} {n : Nat} {l : List (BT.Item Ent n)} (hk : ∀ x ∈ l, Kept N H x) (hs : Parts.size isz l ≤ 502) : PartOk ((n : Nat) : Int) (l.map ient) ∧ (l.map ient).length ≤ 255 := by
 cases n with
 | zero =>
  have e : l.map (ient (n := 0)) = l := ients_leaf l
  have h2 : sizes 0 l ≤ 502 := by
   have := sizes_ient (n := 0) l
   rw [e] at this
   have h3 : sizes 0 l = Parts.size isz l := this
   omega
  rw [e]
  exact ⟨leaf_part hk h2, by have := leaf_few h2; omega⟩
 | succ n =>
  rw [size_kids] at hs
  have hl : (l.map ient).length = l.length := List.length_map ..
  refine ⟨⟨fun e he => ?_, ?_, fun k => ?_, by omega⟩, by omega⟩
  ·obtain ⟨x, hx, rfl⟩ := List.mem_map.1 he
   exact kept_ok (hk x hx)
  ·unfold enc
   rw [List.length_append, List.length_append, le_length, le_length, enc_kids]; omega
  ·rw [← List.map_take, enc_kids, List.length_take]; omega
theorem kept_wf {N : Nat} {H : Lg} (hN : N ≤ 2000) {n : Nat} {x : BT.Item Ent n} (h : Kept N H x) : EWf ((n : Nat) : Int) (ient x) := by
 unfold EWf
 cases n with
 | zero => rw [if_neg (by decide)]; exact h
 | succ n =>
  rw [if_pos (by omega)]
  have h' : Stored N H (n := n) x := h
  have hu := h'.used _ (BT.page_mem x)
  refine ⟨rfl, rfl, ?_, ?_⟩
  ·show (0 : Int) ≤ ((BT.page (n := n) x : Nat) : Int); omega
  ·show ((BT.page (n := n) x : Nat) : Int) < 65536; omega
/-- A node written to its page. -/
theorem node_at {N : Nat} {H H' : Lg} (hN : N ≤ 2000) {n : Nat} {t : BT Ent n} (hn : n ≤ 11) (hk : ∀ x ∈ t.items, Kept N H x) (hs : Parts.size isz t.items ≤ 502) (hu : 1 ≤ t.page ∧ t.page < N ∧ t.page ∉ H'.free)
 (hp : H'.page t.page = page (enc ((n : Nat) : Int) (ents t))) : NodeAt N H' ((t.page : Nat) : Int) ((n : Nat) : Int) (ents t) := by
 obtain ⟨h1, h2⟩ := part_fits hk hs
 refine ⟨⟨by omega, by omega, by simpa using hu.2.2⟩, by simpa using hp, h1.size, by omega, by omega, h2, fun e he => ?_⟩
 obtain ⟨x, hx, rfl⟩ := List.mem_map.1 he
 exact kept_wf hN (hk x hx)
theorem Kept.frame {N : Nat} {H H' : Lg} {n : Nat} {t : BT Ent n} (hk : ∀ x ∈ t.items, Kept N H x) (hp : ∀ q ∈ t.pages, q ≠ t.page → H'.page q = H.page q ∧ q ∉ H'.free) (hn : t.pages.Nodup) : ∀ x ∈ t.items, Kept N H' x := by
 cases n with
 | zero => exact hk
 | succ n =>
  intro x hx
  have hx' : x ∈ BT.kids t := hx
  have h' : Stored N H (n := n) x := hk x hx
  have hpg : t.pages = t.page :: (BT.kids t).flatMap BT.pages := rfl
  rw [hpg] at hn hp
  refine h'.frame (fun q hq => ?_)
  have hm : q ∈ (BT.kids t).flatMap BT.pages := List.mem_flatMap.2 ⟨x, hx', hq⟩
  exact hp q (List.mem_cons_of_mem _ hm) (fun e => (List.nodup_cons.1 hn).1 (by rw [← e]; exact hm))
/-- The changed pages of a tree are its own and free ones: a change framed. -/
def Framed (H H' : Lg) (L : List Nat) : Prop := H'.root = H.root ∧ ∀ q, q ∉ H.free → q ∉ L → H'.page q = H.page q
theorem Chg.plugPages {N : Nat} {H : Lg} {n R : Nat} {p : BT.Path Ent n R} {c : BT Ent n} (h : Chg N H p c) : (H.free ++ (c.pages ++ p.pages)).Nodup :=
 (List.Perm.append_left _ (p.pages_perm c)).nodup h.nodup
theorem Chg.used {N : Nat} {H : Lg} {n R : Nat} {p : BT.Path Ent n R} {c : BT Ent n} (h : Chg N H p c) : ∀ q ∈ (p.plug c).pages, 1 ≤ q ∧ q < N ∧ q ∉ H.free := fun q hq => by
 have h1 := h.range q (List.mem_append_right _ hq)
 exact ⟨h1.1, h1.2, fun hf => (List.nodup_append.1 h.nodup).2.2 q hf q hq rfl⟩
theorem mem_plug {n R : Nat} (p : BT.Path Ent n R) (c : BT Ent n) (q : Nat) : q ∈ (p.plug c).pages ↔ q ∈ c.pages ∨ q ∈ p.pages := by
 rw [(p.pages_perm c).mem_iff, List.mem_append]
/-- good: the node on its own page. -/
theorem Chg.good {N : Nat} {H : Lg} {n R : Nat} {p : BT.Path Ent n (R + 1)} {c : BT Ent n} (h : Chg N H p c) (hn : n < R + 1) (hs : Parts.size isz c.items ≤ 502) (hs2 : 251 ≤ Parts.size isz c.items) :
 let H' : Lg := { H with page := upd H.page c.page (page (enc ((n : Nat) : Int) (ents c))) }
 BT.Settled p c H.free (R + 1) (p.plug c) H'.free ∧ Stored N H' (p.plug c) ∧ Framed H H' (p.plug c).pages := by
 intro H'
 have hhi := h.high
 have hP : c.Proper := by
  cases n with
  | zero =>
   show BT.items c ≠ []
   intro e; rw [e] at hs2; simp [Parts.size] at hs2
  | succ n => rw [size_kids] at hs2; exact ⟨by show 2 ≤ (BT.items c).length; omega, fun k hk => h.near k hk⟩
 have hnd := h.plugPages
 have hnd2 := (List.nodup_append.1 hnd)
 have hnd3 := (List.nodup_append.1 hnd2.2.1)
 have hpg : ∀ q, q ≠ c.page → H'.page q = H.page q := fun q hq => by show upd _ _ _ _ = _; unfold upd; rw [if_neg hq]
 have hcp := BT.page_mem c
 refine ⟨.good hn hP, ?_, rfl, fun q _ hq => hpg q (fun e => hq ((mem_plug p c q).2 (.inl (by rw [e]; exact hcp))))⟩
 refine PStored.plug p c (h.pst.frame (fun q hq => ⟨hpg q (fun e => hnd3.2.2 c.page hcp q hq e.symm), fun hf => hnd2.2.2 q hf q (List.mem_append_right _ hq) rfl⟩)) (Stored.of ?_ ?_)
 ·refine node_at h.most (by omega) h.kept hs (h.used _ ((mem_plug p c _).2 (.inl hcp))) ?_
  show upd _ _ _ _ = _
  unfold upd; rw [if_pos rfl]
 ·exact Kept.frame h.kept (fun q hq hne => ⟨hpg q hne, fun hf => hnd2.2.2 q hf q (List.mem_append_left _ hq) rfl⟩) hnd3.1
end Go.Proofs.YtbpdapcmaioeiaaGreat
namespace Go.Proofs.YtbpdapcmaioeiaaGreat
open Go.RowKit Go.Maps
set_option maxRecDepth 100000
set_option linter.unusedVariables false
theorem map_page_sub {n : Nat} : ∀ l : List (BT Ent n), (l.map BT.page).Sublist (l.flatMap BT.pages)
 | [] => List.Sublist.refl _
 | t :: l => by
  rw [List.map_cons, List.flatMap_cons]
  have h : [BT.page t].Sublist (BT.pages t) := List.singleton_sublist.2 (BT.page_mem t)
  exact h.append (map_page_sub l)
theorem laidFree_mem {n : Nat} {old : List (BT Ent n)} {f : List Nat} {L q : Nat} (h : q ∈ BT.laidFree old f L) : q ∈ old.map BT.page ∨ q ∈ f := by
 unfold BT.laidFree at h
 rcases List.mem_append.1 h with h | h
 ·exact .inl (List.mem_of_mem_drop (List.mem_reverse.1 h))
 ·exact .inr (List.mem_of_mem_drop h)
theorem laid_pages {n : Nat} {old : List (BT Ent n)} {f : List Nat} {ls : List (List (BT.Item Ent n))} (h : ls.length ≤ old.length + f.length) : (BT.laid old f ls).map BT.page = BT.laidPages old f ls.length := by
 have hl : (BT.laidPages old f ls.length).length = ls.length := by
  unfold BT.laidPages
  rw [List.length_take, List.length_append, List.length_map]; omega
 exact (BT.zip_items _ _ hl).2
theorem kidsOf_laid {n : Nat} {old : List (BT Ent n)} {H : Lg} {ls : List (List (BT.Item Ent n))} (h : ls.length ≤ old.length + H.free.length) :
 (kidsOf (atsOf old) H ls.length).map kidE = (BT.laid old H.free ls).map (fun k => kidE (k.page : Int)) := by
 have e : (BT.laid old H.free ls).map (fun k => kidE (k.page : Int)) = ((BT.laid old H.free ls).map BT.page).map (fun q : Nat => kidE (q : Int)) := by rw [List.map_map]; rfl
 rw [e, laid_pages h]
 unfold kidsOf
 rw [List.map_map]
 have hlen : (old.map BT.page ++ H.free).length = old.length + H.free.length := by rw [List.length_append, List.length_map]
 apply List.ext_getElem
 ·rw [List.length_map, List.length_range, List.length_map]
  unfold BT.laidPages
  rw [List.length_take, hlen]; omega
 ·intro i h1 h2
  rw [List.length_map, List.length_range] at h1
  have hg := laidPages_get (old := old) (f := H.free) h1 h
  rw [List.getElem?_eq_getElem (by rw [List.length_map] at h2; exact h2)] at hg
  rw [List.getElem_map, List.getElem_range, List.getElem_map, Option.some.inj hg]
  show kidE (kidAt (atsOf old) H i) = _
  rw [kidAt_eq (by rw [hlen]; omega)]
/-- What laying a group anew leaves. -/
structure Relaid (N : Nat) (H : Lg) {n R : Nat} (page : Nat) (ka kb : List (BT Ent n)) (rest : BT.Path Ent (n + 1) R) (c : BT Ent n) (old la lb ks : List (BT Ent n)) (H1 : Lg) : Prop where
 cut : ka ++ c :: kb = la ++ (old ++ lb)
 same : BT.Same old ks
 proper : ∀ k ∈ la ++ (ks ++ lb), k.Proper
 perm : (H1.free ++ ks.map BT.page).Perm (H.free ++ old.map BT.page)
 stored : ∀ k ∈ la ++ (ks ++ lb), Stored N H1 k
 above : PStored N H1 rest page
 own : H1.page page = H.page page ∧ page ∉ H1.free
 framed : Framed H H1 (rest.plug (BT.node page (ka ++ c :: kb))).pages
 pages : ks.length = old.length → ks.map BT.page = old.map BT.page
 few : ks.length ≤ old.length + 2 ∧ 1 ≤ ks.length ∧ ks.length ≤ 3
 olds : 1 ≤ old.length ∧ old.length ≤ 3
theorem Grouped.fits {N : Nat} {H : Lg} {n R : Nat} {page : Nat} {ka kb : List (BT Ent n)} {rest : BT.Path Ent (n + 1) R} {c : BT Ent n} (h : Chg N H (.up page ka kb rest) c) {old la lb : List (BT Ent n)} {fl : Nat} (hg : Grouped ka kb c old la lb fl) :
 (ka ++ c :: kb = la ++ (old ++ lb) ∧ (∀ k ∈ la, BT.Proper k) ∧ (∀ k ∈ lb, BT.Proper k) ∧ (∀ t ∈ old, t = c ∨ (BT.Proper t ∧ Parts.size isz t.items ≤ 502)) ∧ BT.enough n ≤ (old.flatMap BT.items).length) ∧
 (∀ ls', BT.Even isz (old.flatMap BT.items) ls' → ls'.length ≤ old.length + 2 ∧ ls'.length ≤ 3 ∧ 1 ≤ ls'.length) ∧ (∀ t ∈ old, ∀ x ∈ t.items, Kept N H x) ∧ (old.flatMap BT.items).length ≤ 2000 ∧ (1 ≤ old.length ∧ old.length ≤ 3) ∧ ∀ k ∈ la ++ lb, Stored N H k := by
 obtain ⟨hlen, old0, fr, to, hfr, hto, h0, hold⟩ := hg
 obtain ⟨p1, p2, p3, p4⟩ := h.prop
 obtain ⟨s1, s2, s3, s4⟩ := h.pst
 have hk : ∀ k ∈ ka ++ kb, BT.Proper k ∧ Parts.size isz k.items ≤ 502 := fun k hk => by
  rcases List.mem_append.1 hk with hk | hk
  ·exact ⟨p2 k hk, (s2 k hk).fits⟩
  ·exact ⟨p3 k hk, (s3 k hk).fits⟩
 have hl : (ka ++ c :: kb).length = ka.length + kb.length + 1 := by rw [List.length_append, List.length_cons]; omega
 have g := BT.together_gives (sz := isz) p1 hk h.small hfr hto h0 hold
 obtain ⟨g1, g2, g3, g4, g5, g6⟩ := BT.group (ka ++ c :: kb) ka.length (by omega) (by omega) hfr hto
 rw [← h0] at g5
 have hmem : ∀ t ∈ old, t = c ∨ t ∈ ka ++ kb := by
  intro t ht
  rcases hold with ⟨rfl, -⟩ | ⟨rfl, -⟩
  ·rw [h0] at ht
   rcases List.mem_append.1 (List.mem_of_mem_drop (List.mem_of_mem_take ht)) with h | h
   ·exact .inr (List.mem_append_left _ h)
   ·rcases List.mem_cons.1 h with h | h
    ·exact .inl h
    ·exact .inr (List.mem_append_right _ h)
  ·exact .inl (List.mem_singleton.1 ht)
 have holen : 1 ≤ old.length ∧ old.length ≤ 3 := by
  rcases hold with ⟨rfl, -⟩ | ⟨rfl, -⟩
  ·omega
  ·simp
 refine ⟨g, ?_, ?_, ?_, holen, ?_⟩
 ·intro ls' hls
  obtain ⟨m, -, e1, e2, -⟩ := hls
  have h1 : 1 ≤ ls'.length := by rw [e1]; unfold Parts.parts; rw [List.length_append]; simp
  refine ⟨?_, ?_, h1⟩
  ·rcases hold with ⟨rfl, -, -, hle⟩ | ⟨rfl, -⟩
   ·omega
   ·obtain ⟨a, b, d, e, ha, hb, hd⟩ := h.three
    have := size_flat ha hb hd
    rw [List.flatMap_cons, List.flatMap_nil, List.append_nil, e] at e2
    simp only [List.length_cons, List.length_nil]
    omega
  ·rcases hold with ⟨rfl, -, -, hle⟩ | ⟨rfl, -⟩
   ·omega
   ·obtain ⟨a, b, d, e, ha, hb, hd⟩ := h.three
    have := size_flat ha hb hd
    rw [List.flatMap_cons, List.flatMap_nil, List.append_nil, e] at e2
    omega
 ·intro t ht x hx
  rcases hmem t ht with rfl | h'
  ·exact h.kept x hx
  ·rcases List.mem_append.1 h' with h' | h'
   ·exact (s2 t h').kept x hx
   ·exact (s3 t h').kept x hx
 ·have hb : ∀ t ∈ old, t.items.length ≤ 600 := by
   intro t ht
   rcases hmem t ht with rfl | h'
   ·exact h.few
   ·have : (ents t).length ≤ 255 := by
     rcases List.mem_append.1 h' with h' | h'
     ·exact (s2 t h').node.few
     ·exact (s3 t h').node.few
    have e : (ents t).length = t.items.length := List.length_map ..
    omega
  have key : ∀ l : List (BT Ent n), (∀ t ∈ l, t.items.length ≤ 600) → (l.flatMap BT.items).length ≤ l.length * 600 := by
   intro l
   induction l with
   | nil => intro _; simp
   | cons t l ih =>
    intro h
    rw [List.flatMap_cons, List.length_append, List.length_cons, Nat.succ_mul]
    have := ih (fun y hy => h y (by simp [hy]))
    have := h t (by simp)
    omega
  have := key old hb
  have := Nat.mul_le_mul_right 600 holen.2
  omega
 ·intro k hkk
  rcases List.mem_append.1 hkk with hkk | hkk
  ·rcases hold with ⟨-, e, -⟩ | ⟨-, e, -⟩
   ·rw [e] at hkk; exact s2 k (List.mem_of_mem_take hkk)
   ·rw [e] at hkk; exact s2 k hkk
  ·rcases hold with ⟨-, -, e, -⟩ | ⟨-, -, e, -⟩
   ·rw [e] at hkk; exact s3 k (List.mem_of_mem_drop hkk)
   ·rw [e] at hkk; exact s3 k hkk
theorem Chg.relaid {N : Nat} {H : Lg} {n R : Nat} {page : Nat} {ka kb : List (BT Ent n)} {rest : BT.Path Ent (n + 1) R} {c : BT Ent n} (h : Chg N H (.up page ka kb rest) c) {old la lb : List (BT Ent n)} {fl : Nat} (hg : Grouped ka kb c old la lb fl)
 {ls' : List (List (BT.Item Ent n))} (hls : BT.Even isz (old.flatMap BT.items) ls') :
 Relaid N H page ka kb rest c old la lb (BT.laid old H.free ls') (layF ((n : Nat) : Int) (atsOf old) (ls'.map (List.map ient)) H) := by
 obtain ⟨⟨g1, g2, g3, g4, g5⟩, hparts, hkept, hit, ⟨ho1, ho3⟩, hst⟩ := Grouped.fits h hg
 obtain ⟨q1, q2, q3⟩ := hparts ls' hls
 obtain ⟨p1, p2, p3, p4⟩ := h.prop
 obtain ⟨s1, s2, s3, s4⟩ := h.pst
 have hroom := h.room
 have hplen : (BT.Path.up page ka kb rest).len = rest.len + 1 := rfl
 have hF : ls'.length ≤ old.length + H.free.length := by omega
 obtain ⟨r1, r2, r3, r4, r5⟩ := BT.old_gives (sz := isz) (c := c) (f := H.free) isz_two g2 g3 g4 (BT.near_iff.2 h.near) h.small g5 (by omega) hls hF
 -- the pages
 have hnd : (H.free ++ (page :: (la.flatMap BT.pages ++ (old.flatMap BT.pages ++ lb.flatMap BT.pages)) ++ rest.pages)).Nodup := by
  have := h.nodup
  rw [BT.Path.plug_up, g1] at this
  refine (List.Perm.append_left H.free (rest.pages_perm (BT.node page (la ++ (old ++ lb))))).nodup this |> fun k => ?_
  have e : (BT.node page (la ++ (old ++ lb))).pages = page :: (la.flatMap BT.pages ++ (old.flatMap BT.pages ++ lb.flatMap BT.pages)) := by
   rw [BT.node_pages, List.flatMap_append, List.flatMap_append]
  rw [e] at k
  exact k
 obtain ⟨n1, n2, n3⟩ := List.nodup_append.1 hnd
 obtain ⟨n4, n5, n6⟩ := List.nodup_append.1 n2
 obtain ⟨n7, n8⟩ := List.nodup_cons.1 n4
 obtain ⟨n9, n10, n11⟩ := List.nodup_append.1 n8
 obtain ⟨n12, n13, n14⟩ := List.nodup_append.1 n10
 have hsub := map_page_sub old
 have hfo : (H.free ++ old.map BT.page).Nodup := by
  refine List.nodup_append.2 ⟨n1, n12.sublist hsub, fun a ha b hb => n3 a ha b ?_⟩
  have := hsub.subset hb
  simp [this]
 obtain ⟨l1, l2⟩ := layF_page (ls := ls') (H := H) hfo hF
 have hfree : (layF ((n : Nat) : Int) (atsOf old) (ls'.map (List.map ient)) H).free = BT.laidFree old H.free ls'.length := by
  rw [layF_free, List.length_map]
 obtain ⟨H1, hH1⟩ : ∃ H1, H1 = layF ((n : Nat) : Int) (atsOf old) (ls'.map (List.map ient)) H := ⟨_, rfl⟩
 rw [← hH1] at l1 l2 hfree ⊢
 have hout : ∀ q, q ∉ old.map BT.page → q ∉ H.free → H1.page q = H.page q ∧ q ∉ H1.free := fun q h1 h2 => by
  refine ⟨l2 q (fun hm => (List.mem_append.1 hm).elim h1 h2), fun hm => ?_⟩
  rw [hfree] at hm
  exact (laidFree_mem hm).elim h1 h2
 have hno : ∀ q, (q = page ∨ q ∈ la.flatMap BT.pages ∨ q ∈ lb.flatMap BT.pages ∨ q ∈ rest.pages) → H1.page q = H.page q ∧ q ∉ H1.free := fun q hq => by
  refine hout q (fun hm => ?_) (fun hm => ?_)
  ·have ho := hsub.subset hm
   rcases hq with rfl | hq | hq | hq
   ·exact n7 (by simp [ho])
   ·exact n11 q hq q (by simp [ho]) rfl
   ·exact n14 q ho q hq rfl
   ·exact n6 q (by simp [ho]) q hq rfl
  ·refine n3 q hm q ?_ rfl
   rcases hq with hq | hq | hq | hq <;> simp [hq]
 refine ⟨g1, r1, r3, by rw [hfree]; exact r4, ?_, ?_, ?_, ?_, ?_, ⟨by omega, by omega, by omega⟩, ⟨ho1, ho3⟩⟩
 ·intro k hk
  have side : ∀ k, (k ∈ la ∨ k ∈ lb) → Stored N H1 k := fun k hk => by
   have hs : Stored N H k := hst k (by simpa using hk)
   refine hs.frame (fun q hq => hno q ?_)
   rcases hk with hk | hk
   ·exact .inr (.inl (List.mem_flatMap.2 ⟨k, hk, hq⟩))
   ·exact .inr (.inr (.inl (List.mem_flatMap.2 ⟨k, hk, hq⟩)))
  rcases List.mem_append.1 hk with hk | hk
  ·exact side k (.inl hk)
  rcases List.mem_append.1 hk with hk | hk
  ·obtain ⟨e1, e2, e3, l, hl, el⟩ := l1 k hk
   have hit2 : ∀ x ∈ k.items, ∃ t ∈ old, x ∈ t.items := fun x hx => by
    have hm : x ∈ (BT.laid old H.free ls').flatMap BT.items := List.mem_flatMap.2 ⟨k, hk, hx⟩
    rw [← BT.Same.iff.1 r1] at hm
    exact List.mem_flatMap.1 hm
   have hk0 : ∀ x ∈ k.items, Kept N H x := fun x hx => by
    obtain ⟨t, ht, hxt⟩ := hit2 x hx
    exact hkept t ht x hxt
   have hk1 : ∀ x ∈ k.items, Kept N H1 x := by
    cases n with
    | zero => exact hk0
    | succ n =>
     intro x hx
     have hsx : Stored N H (n := n) x := hk0 x hx
     obtain ⟨t, ht, hxt⟩ := hit2 x hx
     refine hsx.frame (fun q hq => hout q (fun hm => ?_) (fun hm => ?_))
     ·have hperm := BT.pages_kids old
      have hdis := (List.nodup_append.1 (hperm.nodup n12)).2.2
      refine hdis q hm q ?_ rfl
      exact List.mem_flatMap.2 ⟨x, List.mem_flatMap.2 ⟨t, ht, hxt⟩, hq⟩
     ·have hqo : q ∈ old.flatMap BT.pages := by
       refine List.mem_flatMap.2 ⟨t, ht, ?_⟩
       show q ∈ t.1 :: (BT.kids t).flatMap BT.pages
       exact List.mem_cons_of_mem _ (List.mem_flatMap.2 ⟨x, hxt, hq⟩)
      exact n3 q hm q (by simp [hqo]) rfl
   have hrg : 1 ≤ k.page ∧ k.page < N := by
    refine h.range _ ?_
    rcases List.mem_append.1 e2 with h' | h'
    ·refine List.mem_append_right _ ?_
     rw [BT.Path.plug_up, mem_plug, BT.node_pages, g1, List.flatMap_append, List.flatMap_append]
     have := hsub.subset h'
     left; simp [this]
    ·exact List.mem_append_left _ h'
   have hlev : (BT.Path.up page ka kb rest).levels = (BT.Path.up page ka kb rest).levels := rfl
   have hn11 : n ≤ 11 := by
    have := (BT.Path.up page ka kb rest).levels
    have := h.high
    omega
   refine Stored.of (node_at h.most hn11 hk0 ?_ ⟨hrg.1, hrg.2, by rw [hfree]; exact e3⟩ e1) hk1
   rw [el]
   exact (r5 l hl).2
  ·exact side k (.inr hk)
 ·exact s4.frame (fun q hq => hno q (.inr (.inr (.inr hq))))
 ·exact hno page (.inl rfl)
 ·refine ⟨by rw [hH1]; rfl, fun q hf hnq => ?_⟩
  refine (hout q (fun hm => hnq ?_) hf).1
  rw [mem_plug, g1]
  left
  rw [BT.node_pages, List.flatMap_append, List.flatMap_append]
  have := hsub.subset hm
  simp [this]
 ·intro hl
  rw [laid_pages hF]
  unfold BT.laidPages
  rw [show ls'.length = (old.map BT.page).length by rw [List.length_map, ← hl, r2], List.take_left]
theorem plug_page : {n R : Nat} → (p : BT.Path Ent n R) → (t t' : BT Ent n) → t.page = t'.page → (p.plug t).page = (p.plug t').page
 | _, _, .top, t, t', h => h
 | n, R, .up page ka kb rest, t, t', h => plug_page rest (BT.node page (ka ++ t :: kb)) (BT.node page (ka ++ t' :: kb)) rfl
theorem kids_few {N : Nat} {H : Lg} {n R : Nat} {page : Nat} {ka kb : List (BT Ent n)} {rest : BT.Path Ent (n + 1) R} {c : BT Ent n} (h : Chg N H (.up page ka kb rest) c) : (ka ++ c :: kb).length ≤ 251 := by
 have hs := h.pst.1.sizes
 rw [kids_map] at hs
 have e : sizes ((n + 1 : Nat) : Int) ((ka ++ c :: kb).map (fun k => kidE (k.page : Int))) = Parts.size (isz (n := n + 1)) (ka ++ c :: kb) := sizes_ient (n := n + 1) (ka ++ c :: kb)
 have e2 : Parts.size (isz (n := n + 1)) (ka ++ c :: kb) = 2 * (ka ++ c :: kb).length := size_kids (n := n) (ka ++ c :: kb)
 omega
/-- As many nodes as before: nothing above is another. -/
theorem Relaid.laid {N : Nat} {H H1 : Lg} {n R : Nat} {page : Nat} {ka kb : List (BT Ent n)} {rest : BT.Path Ent (n + 1) R} {c : BT Ent n} {old la lb ks : List (BT Ent n)} (h : Chg N H (.up page ka kb rest) c) (hr : Relaid N H page ka kb rest c old la lb ks H1) (hl : ks.length = old.length) :
 BT.Settled (.up page ka kb rest) c H.free R (rest.plug (BT.node page (la ++ (ks ++ lb)))) H1.free ∧ Stored N H1 (rest.plug (BT.node page (la ++ (ks ++ lb)))) ∧ (rest.plug (BT.node page (la ++ (ks ++ lb)))).page = ((BT.Path.up page ka kb rest).plug c).page := by
 refine ⟨.laid hr.cut hr.same hr.proper hl hr.perm, ?_, plug_page rest _ _ rfl⟩
 refine PStored.plug rest _ hr.above (Stored.of ?_ (fun x hx => hr.stored x hx))
 have h1 := h.pst.1.frame hr.own.1 hr.own.2
 rw [kids_map, hr.cut] at h1
 have e : ents (BT.node page (la ++ (ks ++ lb))) = (la ++ (old ++ lb)).map (fun k => kidE (k.page : Int)) := by
  show (la ++ (ks ++ lb)).map (fun k => kidE (k.page : Int)) = _
  have e2 : ∀ l : List (BT Ent n), l.map (fun k => kidE (k.page : Int)) = (l.map BT.page).map (fun q : Nat => kidE (q : Int)) := fun l => by rw [List.map_map]; rfl
  have e3 : (la ++ (ks ++ lb)).map BT.page = (la ++ (old ++ lb)).map BT.page := by simp only [List.map_append, hr.pages hl]
  rw [e2, e2, e3]
 rw [e]
 exact h1
/-- Others: the node above is changed, and what is known of it. -/
theorem Relaid.on {N : Nat} {H H1 : Lg} {n R : Nat} {page : Nat} {ka kb : List (BT Ent n)} {rest : BT.Path Ent (n + 1) R} {c : BT Ent n} {old la lb ks : List (BT Ent n)} (h : Chg N H (.up page ka kb rest) c) (hr : Relaid N H page ka kb rest c old la lb ks H1) :
 Chg N H1 rest (BT.node page (la ++ (ks ++ lb))) := by
 have hperm : (H1.free ++ (rest.plug (BT.node page (la ++ (ks ++ lb)))).pages).Perm (H.free ++ ((BT.Path.up page ka kb rest).plug c).pages) := by
  rw [BT.Path.plug_up]
  exact BT.plug_perm rest (BT.relaid_pages hr.cut hr.same hr.perm)
 have hkf := kids_few h
 rw [hr.cut, List.length_append, List.length_append] at hkf
 have hfew := hr.few
 have hroom := h.room
 have hplen : (BT.Path.up page ka kb rest).len = rest.len + 1 := rfl
 have hlen : H1.free.length + ks.length = H.free.length + old.length := by
  have := hr.perm.length_eq
  simpa using this
 have hit : (BT.node page (la ++ (ks ++ lb))).items = la ++ (ks ++ lb) := rfl
 refine ⟨hr.above, fun x hx => hr.stored x hx, fun x hx => hr.proper x hx, h.prop.2.2.2, hperm.symm.nodup h.nodup, fun q hq => h.range q (hperm.mem_iff.1 hq), fun x hx => by show (2 : Nat) ≤ 502; omega, ⟨la, ks, lb, rfl, ?_, ?_, ?_⟩, ?_, by omega, fun _ => ?_, h.high, h.most⟩
 ·have : Parts.size (isz (n := n + 1)) la = 2 * List.length (α := BT Ent n) la := size_kids (n := n) la
  omega
 ·have : Parts.size (isz (n := n + 1)) ks = 2 * List.length (α := BT Ent n) ks := size_kids (n := n) ks
  omega
 ·have : Parts.size (isz (n := n + 1)) lb = 2 * List.length (α := BT Ent n) lb := size_kids (n := n) lb
  omega
 ·have : (BT.node page (la ++ (ks ++ lb))).items.length = la.length + (ks.length + lb.length) := by
   show List.length (α := BT Ent n) (la ++ (ks ++ lb)) = _
   rw [List.length_append, List.length_append]
  omega
 ·intro e
  have h0 : (la ++ (ks ++ lb) : List (BT Ent n)) = [] := e
  have := congrArg List.length h0
  rw [List.length_append, List.length_append, List.length_nil] at this
  omega
theorem one_part {n : Nat} {l : List (BT.Item Ent n)} {ls' : List (List (BT.Item Ent n))} (h : BT.Even isz l ls') (h1 : ls'.length = 1) : ls' = [l] := by
 obtain ⟨m, -, e, -⟩ := h
 have hf : ls'.flatten = l := by rw [e]; exact Parts.flatten _ _
 match ls', h1 with
 | [x], _ => simp at hf; rw [hf]
theorem Chg.parts {N : Nat} {H : Lg} {n R : Nat} {p : BT.Path Ent n R} {c : BT Ent n} (h : Chg N H p c) {ls' : List (List (BT.Item Ent n))} (hls : BT.Even isz c.items ls') : ls'.length ≤ 3 ∧ 1 ≤ ls'.length := by
 obtain ⟨m, -, e1, e2, -⟩ := hls
 obtain ⟨a, b, d, e, ha, hb, hd⟩ := h.three
 have := size_flat ha hb hd
 rw [← e] at this
 refine ⟨by omega, ?_⟩
 rw [e1]; unfold Parts.parts; rw [List.length_append]; simp
/-- One kid left: it is the root. -/
theorem Chg.one {N : Nat} {H : Lg} {n : Nat} {c : BT Ent (n + 1)} (h : Chg N H (.top : BT.Path Ent (n + 1) (n + 1)) c) {k : BT Ent n} (hk : c.items = [k]) :
 BT.Settled (.top : BT.Path Ent (n + 1) (n + 1)) c H.free n k (c.page :: H.free) ∧ Stored N { H with free := c.page :: H.free } k ∧ Framed H { H with free := c.page :: H.free } c.pages := by
 have hk' : BT.kids c = [k] := hk
 have hc : c = BT.node c.page [k] := by rw [← hk']; rfl
 have hkk : Stored N H k := h.kept k (by rw [hk]; exact List.Mem.head _)
 have hkp : k.Proper := h.near k (by rw [hk]; exact List.Mem.head _)
 have hpg : c.pages = c.page :: k.pages := by
  have : c.pages = c.page :: (BT.kids c).flatMap BT.pages := rfl
  rw [this, hk']; simp
 have hnd : (H.free ++ c.pages).Nodup := h.nodup
 rw [hpg] at hnd
 obtain ⟨-, n2, n3⟩ := List.nodup_append.1 hnd
 refine ⟨?_, hkk.frame (fun q hq => ⟨rfl, fun hm => ?_⟩), rfl, fun q _ _ => rfl⟩
 ·have := BT.Settled.one (page := c.page) (f := H.free) hkp
  rw [← hc] at this
  exact this
 ·rcases List.mem_cons.1 hm with e | hm
  ·exact (List.nodup_cons.1 n2).1 (by rw [← e]; exact hq)
  ·exact n3 q hm q (List.mem_cons_of_mem _ hq) rfl
/-- The root on its page. -/
theorem Chg.whole {N : Nat} {H : Lg} {n : Nat} {c : BT Ent n} (h : Chg N H (.top : BT.Path Ent n n) c) (h1 : n ≠ 0 → c.items.length ≠ 1) {ls' : List (List (BT.Item Ent n))} (hls : BT.Even isz c.items ls') (hl : ls'.length = 1) :
 BT.Settled (.top : BT.Path Ent n n) c H.free n c (layF ((n : Nat) : Int) [(c.page : Int)] (ls'.map (List.map ient)) H).free ∧ Stored N (layF ((n : Nat) : Int) [(c.page : Int)] (ls'.map (List.map ient)) H) c ∧ Framed H (layF ((n : Nat) : Int) [(c.page : Int)] (ls'.map (List.map ient)) H) c.pages := by
 have e := one_part hls hl
 subst e
 have hnd : (H.free ++ c.pages).Nodup := h.nodup
 obtain ⟨-, n2, n3⟩ := List.nodup_append.1 hnd
 have hcp := BT.page_mem c
 have hfo : (H.free ++ [c].map BT.page).Nodup := by
  refine List.nodup_append.2 ⟨(List.nodup_append.1 hnd).1, by simp, fun a ha b hb => n3 a ha b ?_⟩
  have : b = c.page := by simpa using hb
  rw [this]; exact hcp
 obtain ⟨l1, l2⟩ := layF_page (old := [c]) (ls := [c.items]) (H := H) hfo (by simp)
 have hlaid : BT.laid [c] H.free [c.items] = [c] := by
  unfold BT.laid BT.laidPages
  simp [BT.mk_items]
 have hfr : (layF ((n : Nat) : Int) (atsOf [c]) ([c.items].map (List.map ient)) H).free = H.free := by
  rw [layF_free]; simp [BT.laidFree]
 rw [hlaid] at l1
 obtain ⟨H1, hH1⟩ : ∃ H1, H1 = layF ((n : Nat) : Int) (atsOf [c]) ([c.items].map (List.map ient)) H := ⟨_, rfl⟩
 have hH1' : layF ((n : Nat) : Int) [(c.page : Int)] ([c.items].map (List.map ient)) H = H1 := hH1.symm
 rw [← hH1] at l1 l2 hfr
 rw [hH1', hfr]
 obtain ⟨k1, k2, k3, l, hl2, el⟩ := l1 c (by simp)
 have hhi := h.high
 have hfit : Parts.size isz c.items ≤ 502 := by
  obtain ⟨m, hm, e1, -⟩ := hls
  have := Parts.parts_good (sz := isz) hm h.small c.items (by rw [← e1]; simp)
  exact this.1
 have hR : BT.Root c := by
  cases n with
  | zero => trivial
  | succ n =>
   have h2 := h.some (by simp)
   have h3 := h1 (by simp)
   have h4 : 0 < c.items.length := List.length_pos_iff.2 h2
   exact ⟨by show 2 ≤ c.items.length; omega, fun k hk => h.near k hk⟩
 refine ⟨.top (BT.Same.iff.2 rfl) hR rfl, ?_, by rw [hH1]; rfl, fun q hf hq => l2 q (fun hm => ?_)⟩
 ·refine Stored.of (node_at h.most (by omega) h.kept hfit ⟨(h.used c.page hcp).1, (h.used c.page hcp).2.1, by rw [hfr]; exact (h.used c.page hcp).2.2⟩ k1) (Kept.frame h.kept (fun q hq hne => ⟨l2 q (fun hm => ?_), by rw [hfr]; exact fun hm => n3 q hm q hq rfl⟩) n2)
  rcases List.mem_append.1 hm with hm | hm
  ·exact hne (by simpa using hm)
  ·exact n3 q hm q hq rfl
 ·rcases List.mem_append.1 hm with hm | hm
  ·have : q = c.page := by simpa using hm
   exact hq (by rw [this]; exact hcp)
  ·exact hf hm
/-- The root in more parts: a new root above them. -/
theorem Chg.split {N : Nat} {H : Lg} {n : Nat} {c : BT Ent n} (h : Chg N H (.top : BT.Path Ent n n) c) {ls' : List (List (BT.Item Ent n))} (hls : BT.Even isz c.items ls') (h2 : 2 ≤ ls'.length) {H1 : Lg} (hH1 : H1 = layF ((n : Nat) : Int) [(c.page : Int)] (ls'.map (List.map ient)) H) :
 ∃ (a : Nat) (rest : List Nat) (ks : List (BT Ent n)), H1.free = a :: rest ∧ (kidsOf [(c.page : Int)] H ls'.length).map kidE = ents (BT.node a ks) ∧ PartOk (((n : Nat) : Int) + 1) (ents (BT.node a ks)) ∧
  ∀ H2 : Lg, H2 = { H1 with free := rest, page := upd H1.page a (page (enc (((n : Nat) : Int) + 1) (ents (BT.node a ks)))) } → BT.Settled (.top : BT.Path Ent n n) c H.free (n + 1) (BT.node a ks) H2.free ∧ Stored N H2 (BT.node a ks) ∧ Framed H H2 c.pages := by
 obtain ⟨q3, q1⟩ := h.parts hls
 have hroom := h.room
 have hp0 : (BT.Path.top : BT.Path Ent n n).len = 0 := rfl
 have hflat : [c].flatMap BT.items = c.items := by simp
 have hlong : 502 < Parts.size isz c.items := by
  rcases Nat.lt_or_ge 502 (Parts.size isz c.items) with hb | hb
  ·exact hb
  ·exfalso
   obtain ⟨m, -, e1, e2, -⟩ := hls
   have hf := Parts.fewest (sz := isz) (M := 502) [c.items] (fun l hl => by
    have : l = c.items := by simpa using hl
    rw [this]; exact hb)
   rcases hf with hf | hf
   ·have e : [c.items].flatten = c.items := by simp
    rw [e] at hf
    simp only [List.length_cons, List.length_nil] at hf
    have e3 : ((502 : Nat) : Int) = 502 := rfl
    rw [e3] at hf
    omega
   ·cases hf
 have hpair := BT.size_pair h.small hlong
 have hen := (BT.enough_le n).1
 obtain ⟨r1, r2, r3, r4, r5⟩ := BT.old_gives (sz := isz) (la := []) (lb := []) (old := [c]) (c := c) (f := H.free) (ls := ls') isz_two (by simp) (by simp) (fun t ht => .inl (List.mem_singleton.1 ht)) (BT.near_iff.2 h.near) h.small (by rw [hflat]; omega)
  (by rw [hflat]; have := h.few; omega) (by rw [hflat]; exact hls) (by simp only [List.length_cons, List.length_nil]; omega)
 have hF : ls'.length ≤ [c].length + H.free.length := by simp only [List.length_cons, List.length_nil]; omega
 have hnd : (H.free ++ c.pages).Nodup := h.nodup
 obtain ⟨n1, n2, n3⟩ := List.nodup_append.1 hnd
 have hcp := BT.page_mem c
 have hfo : (H.free ++ [c].map BT.page).Nodup := by
  refine List.nodup_append.2 ⟨n1, by simp, fun a ha b hb => n3 a ha b ?_⟩
  have : b = c.page := by simpa using hb
  rw [this]; exact hcp
 obtain ⟨l1, l2⟩ := layF_page (ls := ls') (H := H) hfo hF
 have hfree : H1.free = BT.laidFree [c] H.free ls'.length := by
  rw [hH1]
  show (layF ((n : Nat) : Int) (atsOf [c]) (ls'.map (List.map ient)) H).free = _
  rw [layF_free, List.length_map]
 have hH1' : layF ((n : Nat) : Int) (atsOf [c]) (ls'.map (List.map ient)) H = H1 := hH1.symm
 rw [hH1'] at l1 l2
 have hkl := kidsOf_laid (old := [c]) (H := H) (ls := ls') hF
 obtain ⟨ks, hks⟩ : ∃ ks, ks = BT.laid [c] H.free ls' := ⟨_, rfl⟩
 rw [← hks] at r1 r2 r3 r4 l1 hkl
 rw [← hfree] at r4
 have hlen : H1.free.length + ks.length = H.free.length + 1 := by
  have := r4.length_eq
  simpa using this
 obtain ⟨a, rest, har⟩ : ∃ a rest, H1.free = a :: rest := by
  cases hf : H1.free with
  | nil => rw [hf] at hlen; simp at hlen; omega
  | cons a rest => exact ⟨a, rest, rfl⟩
 have hout : ∀ q, q ≠ c.page → q ∉ H.free → H1.page q = H.page q ∧ q ∉ H1.free := fun q h1 h2 => by
  refine ⟨l2 q (fun hm => (List.mem_append.1 hm).elim (fun e => h1 (by simpa using e)) h2), fun hm => ?_⟩
  rw [hfree] at hm
  exact (laidFree_mem hm).elim (fun e => h1 (by simpa using e)) h2
 have hhi := h.high
 have hst : ∀ k ∈ ks, Stored N H1 k := by
  intro k hk
  obtain ⟨e1, e2, e3, l, hl, el⟩ := l1 k hk
  rw [← hfree] at e3
  have hit2 : ∀ x ∈ k.items, x ∈ c.items := fun x hx => by
   have hm : x ∈ ks.flatMap BT.items := List.mem_flatMap.2 ⟨k, hk, hx⟩
   rw [← BT.Same.iff.1 r1, hflat] at hm
   exact hm
  have hk0 : ∀ x ∈ k.items, Kept N H x := fun x hx => h.kept x (hit2 x hx)
  have hk1 : ∀ x ∈ k.items, Kept N H1 x := by
   cases n with
   | zero => exact hk0
   | succ n =>
    intro x hx
    have hsx : Stored N H (n := n) x := hk0 x hx
    have hpg : c.pages = c.page :: (BT.kids c).flatMap BT.pages := rfl
    rw [hpg] at n2 n3
    refine hsx.frame (fun q hq => ?_)
    have hqm : q ∈ (BT.kids c).flatMap BT.pages := List.mem_flatMap.2 ⟨x, hit2 x hx, hq⟩
    exact hout q (fun e => (List.nodup_cons.1 n2).1 (by rw [← e]; exact hqm)) (fun hm => n3 q hm q (List.mem_cons_of_mem _ hqm) rfl)
  have hrg : 1 ≤ k.page ∧ k.page < N := by
   refine h.range _ ?_
   rcases List.mem_append.1 e2 with h' | h'
   ·have : k.page = c.page := by simpa using h'
    rw [this]; exact List.mem_append_right _ hcp
   ·exact List.mem_append_left _ h'
  refine Stored.of (node_at h.most (by omega) hk0 ?_ ⟨hrg.1, hrg.2, e3⟩ e1) hk1
  rw [el]
  exact (r5 l hl).2
 have hprop : ∀ k ∈ ks, k.Proper := fun k hk => r3 k (by simpa using hk)
 have hents : (kidsOf [(c.page : Int)] H ls'.length).map kidE = ents (BT.node a ks) := hkl
 have hksl : ks.length ≤ 3 := by omega
 have hsz : Parts.size (isz (n := n + 1)) (BT.node a ks).items ≤ 502 := by
  have : Parts.size (isz (n := n + 1)) (BT.node a ks).items = 2 * List.length (α := BT Ent n) ks := size_kids (n := n) ks
  omega
 have hpf := part_fits (N := N) (H := H1) (n := n + 1) (l := (BT.node a ks).items) (fun x hx => hst x hx) hsz
 have hal : a ∈ H.free ++ [c].map BT.page := by
  rcases laidFree_mem (old := [c]) (f := H.free) (L := ls'.length) (q := a) (by rw [← hfree, har]; simp) with h' | h'
  ·exact List.mem_append_right _ h'
  ·exact List.mem_append_left _ h'
 have hnd4 := r4.symm.nodup hfo
 rw [har] at hnd4
 obtain ⟨m1, m2, m3⟩ := List.nodup_append.1 hnd4
 have hcast : (((n + 1 : Nat)) : Int) = ((n : Nat) : Int) + 1 := by omega
 refine ⟨a, rest, ks, har, hents, by rw [← hcast]; exact hpf.1, ?_⟩
 intro H2 hH2
 have hf2 : H2.free = rest := by rw [hH2]
 have hp2 : ∀ q, q ≠ a → H2.page q = H1.page q := fun q hq => by rw [hH2]; show upd _ _ _ _ = _; unfold upd; rw [if_neg hq]
 have hpa : H2.page a = page (enc (((n : Nat) : Int) + 1) (ents (BT.node a ks))) := by rw [hH2]; show upd _ _ _ _ = _; unfold upd; rw [if_pos rfl]
 have hst2 : ∀ k ∈ ks, Stored N H2 k := fun k hk => (hst k hk).frame (fun q hq => by
  have hu := (hst k hk).used q hq
  rw [har] at hu
  exact ⟨hp2 q (fun e => hu.2.2 (by rw [e]; simp)), by rw [hf2]; exact fun hm => hu.2.2 (List.mem_cons_of_mem _ hm)⟩)
 refine ⟨?_, ?_, ?_, fun q hf hq => ?_⟩
 ·rw [hf2]
  refine .split r1 hprop (by omega) ?_
  have e : (rest ++ a :: ks.map BT.page).Perm (a :: rest ++ ks.map BT.page) := List.perm_middle
  rw [har] at r4
  exact e.trans r4
 ·refine Stored.of ?_ (fun x hx => hst2 x hx)
  refine node_at h.most (by omega) (H := H2) (fun x hx => hst2 x hx) hsz ⟨?_, ?_, ?_⟩ ?_
  ·refine (h.range a ?_).1
   rcases List.mem_append.1 hal with h' | h'
   ·exact List.mem_append_left _ h'
   ·have : a = c.page := by simpa using h'
    rw [this]; exact List.mem_append_right _ hcp
  ·refine (h.range a ?_).2
   rcases List.mem_append.1 hal with h' | h'
   ·exact List.mem_append_left _ h'
   ·have : a = c.page := by simpa using h'
    rw [this]; exact List.mem_append_right _ hcp
  ·rw [hf2]; exact (List.nodup_cons.1 m1).1
  ·rw [hcast]; exact hpa
 ·rw [hH2, hH1]; rfl
 ·have hqa : q ≠ a := fun e => by
   rcases List.mem_append.1 hal with h' | h'
   ·exact hf (by rw [e]; exact h')
   ·exact hq (by rw [e]; have : a = c.page := by simpa using h'
                 rw [this]; exact hcp)
  rw [hp2 q hqa]
  exact (hout q (fun e => hq (by rw [e]; exact hcp)) hf).1
end Go.Proofs.YtbpdapcmaioeiaaGreat
namespace Go.Proofs.YtbpdapcmaioeiaaGreat
open Go.RowKit Go.Maps
set_option maxRecDepth 100000
set_option linter.unusedVariables false
theorem wf_page {q N : Nat} (h : q < N) (hN : N ≤ 2000) : (Lit.int .i64 (q : Int)).wf = true := by
 have h1 : (q : Int) < 2000 := by omega
 simp only [Lit.wf, Bool.and_eq_true, decide_eq_true_eq]
 exact ⟨by show (-9223372036854775808 : Int) ≤ _; omega, by show _ ≤ (9223372036854775807 : Int); omega⟩
set_option maxHeartbeats 1000000 in
/-- top, of a tree's root that was changed. -/
theorem top_tree {w0 w : World} {X : Nat → Prop} {r p N M c : Nat} {G H : Lg} (h : Pb w0 w X r p N M c G (some H)) {n : Nat} {t : BT Ent n} (hc : Chg N H (.top : BT.Path Ent n n) t) (v : Value) (hes : Ens w v (ents t)) (hv : ∀ g, v.ownBlock = some g → g < w0.heap.size ∨ X g) (hcc : c + 200000 < 500000) :
 Calls Tryz.prog 115 #[.pointer (some ⟨p, 0, none⟩), nodeV (t.page : Int) ((n : Nat) : Int) v] w fun e w' => ∃ (m : Nat) (t' : BT Ent m) (H' : Lg) (c' : Nat), e = .returned (.tuple #[.int .i64 (t'.page : Int), .int .i64 0]) ∧ c' ≤ c + 9 ∧
  BT.Settled (.top : BT.Path Ent n n) t H.free m t' H'.free ∧ Stored N H' t' ∧ Framed H H' t.pages ∧ Pb w0 w' X r p N M c' G (some H') ∧ Mx w0 X w w' := by
 have hu := hc.used t.page (BT.page_mem t)
 have hus : lgUsed N H (t.page : Int) := ⟨by omega, by omega, by simpa using hu.2.2⟩
 have hlen : (ents t).length = t.items.length := List.length_map ..
 have hfew := hc.few
 have hhi := hc.high
 by_cases h1 : n ≠ 0 ∧ t.items.length = 1
 ·obtain ⟨h0, h1⟩ := h1
  cases n with
  | zero => exact (h0 rfl).elim
  | succ n =>
   obtain ⟨k, hk⟩ : ∃ k : BT Ent n, t.items = [k] := by
    match hi : t.items, h1 with
    | [x], _ => exact ⟨x, rfl⟩
   obtain ⟨g1, g2, g3⟩ := hc.one hk
   have he : ents t = [kidE (k.page : Int)] := by unfold ents; rw [hk]; rfl
   rw [he] at hes
   refine (top_kid h (t.page : Int) ((n + 1 : Nat) : Int) v (k.page : Int) hes hv (by omega) hus).mono ?_
   rintro e w' ⟨rfl, hp, hm⟩
   exact ⟨n, k, _, c + 1, rfl, by omega, g1, g2, g3, by simpa using hp, hm⟩
 ·have hfit : ∀ ls, EvenOf ((n : Nat) : Int) (ents t) ls → ∃ ls', ls = ls'.map (List.map ient) ∧ BT.Even isz t.items ls' := fun ls hls => even_ient hls
  have hpo : ∀ ls', BT.Even isz t.items ls' → ∀ l ∈ ls', Parts.size isz l ≤ 502 ∧ ∀ x ∈ l, x ∈ t.items := by
   intro ls' hls l hl
   obtain ⟨m, hm, rfl, -⟩ := hls
   refine ⟨(Parts.parts_good hm hc.small l hl).1, fun x hx => ?_⟩
   have : x ∈ (Parts.parts isz (m : Int) t.items).flatten := List.mem_flatten.2 ⟨l, hl, hx⟩
   rwa [Parts.flatten] at this
  have hroom := hc.room
  refine (top_lay h (t.page : Int) ((n : Nat) : Int) v (ents t) hes hv (by omega) (fun e he => by
   obtain ⟨x, hx, rfl⟩ := List.mem_map.1 he
   exact kept_ok (hc.kept x hx)) (by
   by_cases h0 : n = 0
   ·left; omega
   ·right; rw [hlen]; exact fun e => h1 ⟨h0, e⟩) (by omega) (by omega) hus (wf_page hu.2.1 hc.most) (fun ls hls => by
   obtain ⟨ls', rfl, hls'⟩ := hfit ls hls
   have hp := hc.parts hls'
   refine ⟨by rw [List.length_map]; omega, fun l hl => ?_⟩
   obtain ⟨l', hl', rfl⟩ := List.mem_map.1 hl
   obtain ⟨k1, k2⟩ := hpo ls' hls' l' hl'
   exact (part_fits (fun x hx => hc.kept x (k2 x hx)) k1).1) (fun ls hls h2 => by
   obtain ⟨ls', rfl, hls'⟩ := hfit ls hls
   rw [List.length_map] at h2
   obtain ⟨a, rest, ks, e1, e2, e3, -⟩ := hc.split hls' h2 rfl
   rw [List.length_map, e2]
   exact ⟨⟨a, rest, e1⟩, e3⟩) hcc).mono ?_
  rintro e w' ⟨i, ls, c', H', hls, rfl, hc', hp, hm, hcase⟩
  obtain ⟨ls', rfl, hls'⟩ := hfit ls hls
  have hpp := hc.parts hls'
  rw [List.length_map] at hc' hcase
  rcases hcase with ⟨hl, rfl, rfl⟩ | ⟨hl, a, rest, e1, rfl, rfl⟩
  ·obtain ⟨g1, g2, g3⟩ := hc.whole (fun h0 e => h1 ⟨h0, e⟩) hls' hl
   exact ⟨n, t, _, c', rfl, by omega, g1, g2, g3, hp, hm⟩
  ·obtain ⟨a', rest', ks, f1, f2, f3, f4⟩ := hc.split hls' hl rfl
   rw [e1] at f1
   obtain ⟨rfl, rfl⟩ := List.cons.inj f1
   rw [f2] at hp
   obtain ⟨g1, g2, g3⟩ := f4 _ rfl
   exact ⟨n + 1, BT.node a ks, _, c', rfl, by omega, g1, g2, g3, hp, hm⟩
set_option maxHeartbeats 1000000 in
/-- lay, of the nodes that are laid anew together. -/
theorem lay_tree {w0 w : World} {X : Nat → Prop} {r p N M c : Nat} {G H : Lg} (h : Pb w0 w X r p N M c G (some H)) {n R : Nat} {page : Nat} {ka kb : List (BT Ent n)} {rest : BT.Path Ent (n + 1) R} {t : BT Ent n} (hc : Chg N H (.up page ka kb rest) t) {old la lb : List (BT Ent n)} {fl : Nat} (hg : Grouped ka kb t old la lb fl)
 (v : Value) (S : Nat → Prop) (hv : Nds w S v (old.map ndT)) (hS : ∀ q, S q → q < w0.heap.size ∨ X q) (hcc : c + 100000 < 500000) :
 Calls Tryz.prog 118 #[.pointer (some ⟨p, 0, none⟩), v] w fun e w' => ∃ (v' : Value) (ks : List (BT Ent n)) (H1 : Lg) (F : Nat → Prop) (c' : Nat), e = .returned (.tuple #[v', .int .i64 0]) ∧ c' ≤ c + 9 ∧ Relaid N H page ka kb rest t old la lb ks H1 ∧
  (∀ k, F k → w.heap.size ≤ k ∧ k < w'.heap.size) ∧ Pb w0 w' (fun k => X k ∨ F k) r p N M c' G (some H1) ∧ Mx w0 X w w' ∧ Owe w' w.heap.size v' (ks.map (fun k => kidE (k.page : Int))) ∧ ∀ q, v'.ownBlock = some q → F q := by
 obtain ⟨⟨g1, g2, g3, g4, g5⟩, hparts, hkept, hit, ⟨ho1, ho3⟩, hst⟩ := Grouped.fits hc hg
 have hfit : ∀ ls, EvenOf ((n : Nat) : Int) (allEs (old.map ndT)) ls → ∃ ls', ls = ls'.map (List.map ient) ∧ BT.Even isz (old.flatMap BT.items) ls' := fun ls hls => by
  rw [allEs_ndT] at hls
  exact even_ient hls
 have hroom := hc.room
 have hpg : ∀ q ∈ old.map BT.page, 1 ≤ q ∧ q < N ∧ q ∉ H.free := fun q hq => hc.used q (by
  rw [BT.Path.plug_up, mem_plug, BT.node_pages, g1, List.flatMap_append, List.flatMap_append]
  have := (map_page_sub old).subset hq
  left; simp [this])
 have hats : atsOf old = (old.map ndT).map (·.at') := by unfold atsOf; rw [List.map_map]; rfl
 have hmem : ∀ a ∈ atsOf old, ∃ q ∈ old.map BT.page, a = (q : Int) := fun a ha => by
  unfold atsOf at ha
  obtain ⟨x, hx, rfl⟩ := List.mem_map.1 ha
  exact ⟨x.page, List.mem_map.2 ⟨x, hx, rfl⟩, rfl⟩
 have hndp : (old.map BT.page).Nodup := by
  have h1 := hc.nodup
  rw [BT.Path.plug_up, g1] at h1
  have h2 := (List.Perm.append_left H.free (rest.pages_perm (BT.node page (la ++ (old ++ lb))))).nodup h1
  have e : (BT.node page (la ++ (old ++ lb))).pages = page :: (la.flatMap BT.pages ++ (old.flatMap BT.pages ++ lb.flatMap BT.pages)) := by
   rw [BT.node_pages, List.flatMap_append, List.flatMap_append]
  rw [e] at h2
  have h3 := (List.nodup_append.1 (List.nodup_append.1 h2).2.1).1
  have h4 := (List.nodup_append.1 (List.nodup_append.1 (List.nodup_cons.1 h3).2).2.1).1
  exact h4.sublist (map_page_sub old)
 have hnd : (atsOf old).Nodup := by
  have e : atsOf old = (old.map BT.page).map (fun q : Nat => (q : Int)) := by unfold atsOf; rw [List.map_map]; rfl
  rw [e, List.Nodup, List.pairwise_map]
  exact hndp.imp (fun h e => h (by omega))
 have hel : (allEs (old.map ndT)).length = (old.flatMap BT.items).length := by rw [allEs_ndT, List.length_map]
 have hpo : ∀ ls', BT.Even isz (old.flatMap BT.items) ls' → ∀ l ∈ ls', Parts.size isz l ≤ 502 ∧ ∀ x ∈ l, x ∈ old.flatMap BT.items := by
  intro ls' hls l hl
  have hsm : ∀ x ∈ old.flatMap BT.items, isz x ≤ 502 := fun x hx => by
   obtain ⟨y, hy, hxy⟩ := List.mem_flatMap.1 hx
   rcases g4 y hy with rfl | ⟨-, h⟩
   ·exact hc.small x hxy
   ·exact Nat.le_trans (BT.size_mem hxy) h
  obtain ⟨m, hm, rfl, -⟩ := hls
  refine ⟨(Parts.parts_good hm hsm l hl).1, fun x hx => ?_⟩
  have : x ∈ (Parts.parts isz (m : Int) (old.flatMap BT.items)).flatten := List.mem_flatten.2 ⟨l, hl, hx⟩
  rwa [Parts.flatten] at this
 have hkx : ∀ x ∈ old.flatMap BT.items, Kept N H x := fun x hx => by
  obtain ⟨y, hy, hxy⟩ := List.mem_flatMap.1 hx
  exact hkept y hy x hxy
 refine (lay_all h v (old.map ndT) S hv hS (by rw [List.length_map]; omega) (by rw [List.length_map]; omega) (by rw [hel]; omega) (fun e he => by
  rw [allEs_ndT] at he
  obtain ⟨x, hx, rfl⟩ := List.mem_map.1 he
  exact kept_ok (hkx x hx)) ((n : Nat) : Int) (by rw [List.getElem_map]; rfl) (atsOf old) hats (fun a ha => by
  obtain ⟨q, hq, rfl⟩ := hmem a ha
  have := hpg q hq
  exact ⟨by omega, by omega, by simpa using this.2.2⟩) (fun a ha => by
  obtain ⟨q, hq, rfl⟩ := hmem a ha
  exact wf_page (hpg q hq).2.1 hc.most) (fun ls hls => by
  obtain ⟨ls', rfl, hls'⟩ := hfit ls hls
  obtain ⟨q1, q2, q3⟩ := hparts ls' hls'
  have hal : (atsOf old).length = old.length := List.length_map ..
  refine ⟨by rw [List.length_map, hal]; have hplen : (BT.Path.up page ka kb rest).len = rest.len + 1 := rfl; omega, fun l hl => ?_⟩
  obtain ⟨l', hl', rfl⟩ := List.mem_map.1 hl
  obtain ⟨k1, k2⟩ := hpo ls' hls' l' hl'
  exact (part_fits (fun x hx => hkx x (k2 x hx)) k1).1) hnd hcc).mono ?_
 rintro e w' ⟨v', ls, F, c', hls, rfl, hc', hF, hp, hm, ho, hq⟩
 obtain ⟨ls', rfl, hls'⟩ := hfit ls hls
 obtain ⟨q1, q2, q3⟩ := hparts ls' hls'
 rw [List.length_map] at hc' ho
 rw [List.length_map] at hc'
 have hplen : (BT.Path.up page ka kb rest).len = rest.len + 1 := rfl
 rw [kidsOf_laid (by omega)] at ho
 exact ⟨v', _, _, F, c', rfl, by omega, hc.relaid hg hls', hF, hp, hm, ho, hq⟩
end Go.Proofs.YtbpdapcmaioeiaaGreat
namespace Go.Proofs.YtbpdapcmaioeiaaGreat
open Go.RowKit Go.Maps
set_option maxRecDepth 100000
set_option linter.unusedVariables false
def Exit.two (J0 J1 : Act → World → Prop) (Q : Exit → Act → World → Prop) : Exit → Act → World → Prop
 | .goto l, a, w => (l = 0 ∧ J0 a w) ∨ (l = 1 ∧ J1 a w)
 | e, a, w => Q e a w
theorem Exit.two_ret {J0 J1 : Act → World → Prop} {Q : Exit → Act → World → Prop} {a : Act} {w : World} : Exit.two J0 J1 Q .ret a w = Q .ret a w := rfl
/-- A scope with two labels: one gone through again and again, one that leads out. -/
theorem wp_scope_two {P : Program} {a : Act} {w : World} {Q : Exit → Act → World → Prop} {c r0 r1 : Code} (J0 J1 : Act → World → Prop) (μ : Act → World → Nat) (h0 : findLabel c 0 = some (Code.seq .skip r0)) (h1 : findLabel c 1 = some (Code.seq .skip r1))
 (out : ∀ a w, J1 a w → r1.wp P (Exit.noGoto Q) a w)
 (pass : ∀ a w, J0 a w → r0.wp P (Exit.two (fun a' w' => J0 a' w' ∧ μ a' w' < μ a w) J1 Q) a w)
 (first : (∀ a w, J0 a w → r0.wp P (Exit.two J0 J1 Q) a w) → c.wp P (Exit.two J0 J1 Q) a w) : (Code.scope c).wp P Q a w := by
 have pass' : ∀ a w, J0 a w → (Code.seq .skip r0).wp P (Exit.two (fun a' w' => J0 a' w' ∧ μ a' w' < μ a w) J1 Q) a w := fun a w hJ => wp_seq (wp_skip (pass a w hJ))
 have out' : ∀ a w, J1 a w → (Code.seq .skip r1).wp P (Exit.noGoto Q) a w := fun a w hJ => wp_seq (wp_skip (Code.wp_mono (by
  intro e a w h
  cases e with
  | normal => exact h
  | _ => exact h) (out a w hJ)))
 intro b k cs
 have hg0 : gotoIn 0 (.inScope c :: k) = some (.code (Code.seq .skip r0) :: .inScope c :: k) := by simp [gotoIn, h0]
 have hg1 : gotoIn 1 (.inScope c :: k) = some (.code (Code.seq .skip r1) :: .inScope c :: k) := by simp [gotoIn, h1]
 have last : ∀ a w, J1 a w → ∃ e a' w', Q e a' w' ∧ Arrives P (lone (b.at a (.code (Code.seq .skip r1) :: .inScope c :: k)) cs w) b k cs e a' w' := by
  intro a w hJ
  obtain ⟨e, a₁, w₁, hq, harr⟩ := out' a w hJ b (.inScope c :: k) cs
  cases e with
  | normal => exact ⟨.normal, a₁, w₁, hq, Steps.trans harr (.one step_inScope)⟩
  | exit id => exact ⟨.exit id, a₁, w₁, hq, fun k' hk => harr k' (by simp [exitTo, hk])⟩
  | goto l' => exact hq.elim
  | ret => exact ⟨_, a₁, w₁, hq, harr⟩
  | panic ch => exact ⟨_, a₁, w₁, hq, harr⟩
  | outgrown => exact ⟨_, a₁, w₁, hq, harr⟩
 have key : ∀ n a w, μ a w = n → J0 a w → ∃ e a' w', Q e a' w' ∧ Arrives P (lone (b.at a (.code (Code.seq .skip r0) :: .inScope c :: k)) cs w) b k cs e a' w' := by
  intro n
  induction n using Nat.strongRecOn with
  | _ n ih =>
   intro a w hn hJ
   obtain ⟨e, a₁, w₁, hq, harr⟩ := pass' a w hJ b (.inScope c :: k) cs
   cases e with
   | normal => exact ⟨.normal, a₁, w₁, hq, Steps.trans harr (.one step_inScope)⟩
   | exit id => exact ⟨.exit id, a₁, w₁, hq, fun k' hk => harr k' (by simp [exitTo, hk])⟩
   | goto l' =>
    rcases hq with ⟨rfl, hJ', hlt⟩ | ⟨rfl, hJ'⟩
    ·obtain ⟨e₂, a₂, w₂, hq₂, harr₂⟩ := ih _ (by omega) a₁ w₁ rfl hJ'
     exact ⟨e₂, a₂, w₂, hq₂, .of_steps (harr _ hg0) harr₂⟩
    ·obtain ⟨e₂, a₂, w₂, hq₂, harr₂⟩ := last a₁ w₁ hJ'
     exact ⟨e₂, a₂, w₂, hq₂, .of_steps (harr _ hg1) harr₂⟩
   | ret => exact ⟨_, a₁, w₁, hq, harr⟩
   | panic ch => exact ⟨_, a₁, w₁, hq, harr⟩
   | outgrown => exact ⟨_, a₁, w₁, hq, harr⟩
 obtain ⟨e, a₁, w₁, hq, harr⟩ := (first (fun a w hJ => Code.wp_mono (by
  intro e a w h
  cases e with
  | goto l' => exact h.imp (fun k => ⟨k.1, k.2.1⟩) id
  | _ => exact h) (pass a w hJ))) b (.inScope c :: k) cs
 cases e with
 | normal => exact ⟨.normal, a₁, w₁, hq, .head step_scope (Steps.trans harr (.one step_inScope))⟩
 | exit id => exact ⟨.exit id, a₁, w₁, hq, fun k' hk => .head step_scope (harr k' (by simp [exitTo, hk]))⟩
 | goto l' =>
  rcases hq with ⟨rfl, hJ'⟩ | ⟨rfl, hJ'⟩
  ·obtain ⟨e₂, a₂, w₂, hq₂, harr₂⟩ := key _ a₁ w₁ rfl hJ'
   exact ⟨e₂, a₂, w₂, hq₂, .of_steps (.head step_scope (harr _ hg0)) harr₂⟩
  ·obtain ⟨e₂, a₂, w₂, hq₂, harr₂⟩ := last a₁ w₁ hJ'
   exact ⟨e₂, a₂, w₂, hq₂, .of_steps (.head step_scope (harr _ hg1)) harr₂⟩
 | ret => exact ⟨_, a₁, w₁, hq, .of_steps (.one step_scope) harr⟩
 | panic ch => exact ⟨_, a₁, w₁, hq, .of_steps (.one step_scope) harr⟩
 | outgrown => exact ⟨_, a₁, w₁, hq, .of_steps (.one step_scope) harr⟩
/-- The slots that are of no matter, one function. -/
theorem ex_u (T : Array Value) (F : (Nat → Value) → Array Value) (hF : F (fun i => T.getD i undef) = T) (R : (Nat → Value) → Prop) (h : R (fun i => T.getD i undef)) : ∃ u, ({ tmps := T, defers := [] } : Act) = { tmps := F u, defers := [] } ∧ R u :=
 ⟨_, by rw [hF], h⟩
theorem way_root : {n R : Nat} → {p : BT.Path Ent n R} → {t : BT Ent n} → {ss : List Stp} → OnWay p t.page ss → (h : 0 < ss.length) → ss[0].at' = ((p.plug t).page : Int)
 | _, _, .top, t, ss, hw, h => by have e : ss = [] := hw; subst e; simp at h
 | n, R, .up page ka kb rest, t, ss, hw, h => by
  obtain ⟨ss', s, rfl, h1, h2, h3, h4, h5⟩ := hw
  cases ss' with
  | nil =>
   have hl := OnWay.length h5
   cases rest with
   | top => exact h1
   | up => simp [BT.Path.len] at hl
  | cons s' ss' =>
   have := way_root (t := BT.node page (ka ++ t :: kb)) h5 (by simp)
   have h6 : s'.at' = ((rest.plug (BT.node page (ka ++ t :: kb))).page : Int) := by simpa using this
   exact h6
/-- What is known at the label up. -/
structure Up (w0 w wr : World) (X X0 S : Nat → Prop) (r p N M c : Nat) (G H : Lg) {n0 R : Nat} (path0 : BT.Path Ent n0 R) (t0 : BT Ent n0) (lv : Value) (L0 k : Nat) {n : Nat} (path : BT.Path Ent n R) (t : BT Ent n) (full : List Stp) (H' : Lg) (c' : Nat) (T : Nat → Prop) : Prop where
 new : ∀ q, T q → w.heap.size ≤ q ∧ q < wr.heap.size
 pb : Pb w0 wr (fun q => X q ∨ T q) r p N M c' G (some H')
 sts : Sts wr (fun q => S q ∨ T q) lv full
 len : full.length = L0
 lt : k < L0
 way : OnWay path t.page (full.take k)
 here : ∃ s, full[k]? = some s ∧ s.at' = (t.page : Int) ∧ s.lvl = ((n : Nat) : Int) ∧ s.es = ents t
 chg : Chg N H' path t
 goes : ∀ (m : Nat) (t' : BT Ent m) (f' : List Nat), BT.Settled path t H'.free m t' f' → BT.Settled path0 t0 H.free m t' f'
 framed : Framed H H' (path0.plug t0).pages
 perm : (H'.free ++ (path.plug t).pages).Perm (H.free ++ (path0.plug t0).pages)
 cost : c' + 10 * (k + 1) ≤ c + 10 * L0
 mx : Mx w0 X0 w wr
/-- What settle leaves. -/
structure Done (w0 w w' : World) (X0 : Nat → Prop) (r p N M c : Nat) (G H : Lg) {n0 R : Nat} (path0 : BT.Path Ent n0 R) (t0 : BT Ent n0) (L0 : Nat) {m : Nat} (t' : BT Ent m) (H' : Lg) (c' : Nat) : Prop where
 settled : BT.Settled path0 t0 H.free m t' H'.free
 stored : Stored N H' t'
 framed : Framed H H' (path0.plug t0).pages
 pb : Pb w0 w' X0 r p N M c' G (some H')
 mx : Mx w0 X0 w w'
 cost : c' ≤ c + 10 * L0
theorem Framed.trans {H H' H'' : Lg} {L L' : List Nat} (h : Framed H H' L) (h' : Framed H' H'' L') (hp : (H'.free ++ L').Perm (H.free ++ L)) : Framed H H'' L := by
 refine ⟨h'.1.trans h.1, fun q hf hq => ?_⟩
 have hn : q ∉ H'.free ++ L' := fun hm => by
  rw [hp.mem_iff] at hm
  exact (List.mem_append.1 hm).elim hf hq
 rw [h'.2 q (fun e => hn (List.mem_append_left _ e)) (fun e => hn (List.mem_append_right _ e))]
 exact h.2 q hf hq
theorem Chg.good2 {N : Nat} {H : Lg} {n R : Nat} {p : BT.Path Ent n R} {c : BT Ent n} (h : Chg N H p c) (hn : n < R) (hs : Parts.size isz c.items ≤ 502) (hs2 : 251 ≤ Parts.size isz c.items) {H' : Lg} (hH : H' = { H with page := upd H.page c.page (page (enc ((n : Nat) : Int) (ents c))) }) :
 BT.Settled p c H.free R (p.plug c) H'.free ∧ Stored N H' (p.plug c) ∧ Framed H H' (p.plug c).pages := by
 subst hH
 cases R with
 | zero => omega
 | succ R => exact h.good hn hs hs2
/-- What the steps say, one up. -/
theorem Up.above {w0 w wr : World} {X X0 S : Nat → Prop} {r p N M c : Nat} {G H : Lg} {n0 R : Nat} {path0 : BT.Path Ent n0 R} {t0 : BT Ent n0} {lv : Value} {L0 k n page : Nat} {ka kb : List (BT Ent n)} {rest : BT.Path Ent (n + 1) R} {t : BT Ent n} {full : List Stp} {H' : Lg} {c' : Nat} {T : Nat → Prop}
 (h : Up w0 w wr X X0 S r p N M c G H path0 t0 lv L0 k (.up page ka kb rest) t full H' c' T) :
 ∃ (km : Nat) (s1 : Stp), k = km + 1 ∧ full[km]? = some s1 ∧ s1.at' = (page : Int) ∧ s1.lvl = ((n : Nat) : Int) + 1 ∧ s1.es = (ka ++ t :: kb).map (fun k => kidE (k.page : Int)) ∧ s1.i = ka.length ∧ OnWay rest page (full.take km) := by
 obtain ⟨ss', s, he, h1, h2, h3, h4, h5⟩ := h.way
 have hk := h.lt
 rw [← h.len] at hk
 cases k with
 | zero => simp at he
 | succ km =>
  have hkm : km < full.length := by omega
  rw [List.take_succ_eq_append_getElem hkm] at he
  obtain ⟨e1, e2⟩ := List.append_inj' he rfl
  have e3 : full[km] = s := by simpa using e2
  subst e3
  rw [← e1] at h5
  exact ⟨km, full[km], rfl, List.getElem?_eq_getElem hkm, h1, by rw [h2]; omega, by rw [h3, kids_map], h4, h5⟩
end Go.Proofs.YtbpdapcmaioeiaaGreat
