package sample

import "hedgerow/api"

// Zones tells how many a world has.
func Zones(c api.Config) int {
	return c.Cols * c.Rows
}

// Outside tells how far an entity stands from a zone.
func Outside(c api.Config, zone int, b api.Bundle) int {
	x, y := b.X-zone%c.Cols*c.Side, b.Y-zone/c.Cols*c.Side
	return max(-x, x-c.Side+1, -y, y-c.Side+1, 0)
}

// ZoneOf tells where an entity stands; -1, if it is not in the world.
func ZoneOf(c api.Config, b api.Bundle) int {
	b.X, b.Y = Fixed(b.X), Fixed(b.Y)
	for zone := range Zones(c) {
		if Outside(c, zone, b) == 0 {
			return zone
		}
	}
	return -1
}
