package sample

import "hedgerow/api"

// Begin lets an entity begin.
func Begin(b api.Bundle) api.Cmd { return api.Cmd{Kind: api.CmdSpawn, B: b} }

// End ends one.
func End(id api.ID) api.Cmd { return api.Cmd{Kind: api.CmdDespawn, ID: id} }

// Give sets components of one.
func Give(id api.ID, b api.Bundle) api.Cmd { return api.Cmd{Kind: api.CmdSet, ID: id, B: b} }

// Take drops those of a mask.
func Take(id api.ID, mask int) api.Cmd { return api.Cmd{Kind: api.CmdDrop, ID: id, Mask: mask} }

// Command makes one of a kind from an entity: it begins, it ends, it gets its components, or loses those that it has; but for its place.
func Command(kind int, b api.Bundle) api.Cmd {
	switch kind {
	case api.CmdSpawn:
		return Begin(b)
	case api.CmdDespawn:
		return End(b.ID)
	case api.CmdSet:
		c := Less(b, api.Pos)
		c.ID = api.ID{}
		return Give(b.ID, c)
	default:
		return Take(b.ID, b.Mask&^api.Pos)
	}
}

// CommandMayBe tells whether one may be.
func CommandMayBe(c api.Cmd) bool {
	switch c.Kind {
	case api.CmdSpawn:
		return c == Begin(c.B) && MayBe(c.B)
	case api.CmdDespawn:
		return c == End(c.ID) && NameMayBe(c.ID)
	case api.CmdSet:
		somewhere := c.B
		somewhere.Mask |= api.Pos
		return c == Give(c.ID, c.B) && NameMayBe(c.ID) && c.B.ID == (api.ID{}) && takes(c.B.Mask) && c.B.X == 0 && c.B.Y == 0 && MayBe(somewhere)
	case api.CmdDrop:
		return c == Take(c.ID, c.Mask) && NameMayBe(c.ID) && takes(c.Mask)
	}
	return false
}

// takes tells whether a mask is one of components that an entity may get, or lose: of all masks just the even ones have not Pos.
func takes(mask int) bool {
	return mask > 0 && mask <= api.All && mask%2 == 0
}
